/-
  impl.BestMany: the most tasks that some order has in time. Nothing old is written.
-/
import Derived.Test.YtpkngcamaahhdaxITask
import Derived.Test.YtpkngcamaahhdaxIBest
namespace Go.Proofs.Ytpkngcamaahhdax
open Go.RowKit

set_option maxHeartbeats 1000000 in
theorem ibestfn_no (v : Value) (xs : List TkEl) (w : World) (hr : TkReads w v xs) (hg : goodT xs = false) :
    Calls Try.prog 8 #[v] w fun e w' => e = .returned (.tuple #[.int .i64 0, .bool false]) ∧ Below w.heap.size w w' := by
  have HR := hid hr
  clear hr
  go_enter Try.func8, Try.ntmps8
  go_wp2_with fail
  refine (igoodTasks_eq _ xs false hg _ HR.out).mono ?_
  rintro e w1 ⟨rfl, b1⟩
  have B1 := hid b1
  clear b1
  go_wp2
  go_ret2
  exact ⟨rfl, B1.out⟩
set_option maxHeartbeats 1000000 in
theorem ibestfn_yes (v : Value) (xs : List TkEl) (w : World) (hr : TkReads w v xs) (hg : goodT xs = true) :
    Calls Try.prog 8 #[v] w fun e w' => e = .returned (.tuple #[.int .i64 (bestL xs : Nat), .bool true]) ∧ Below w.heap.size w w' := by
  rw [bestL_eq hg]
  have HR := hid hr
  have HG := hid hg
  clear hr hg
  obtain ⟨m, hm⟩ : ∃ m, m = (mooreL xs).1.length := ⟨_, rfl⟩
  rw [← hm]
  have HM := hid hm
  clear hm
  go_enter Try.func8, Try.ntmps8
  go_wp2_with fail
  refine (igoodTasks_eq _ xs true HG.out _ HR.out).mono ?_
  rintro e w1 ⟨rfl, b1⟩
  have B1 := hid b1
  clear b1
  go_wp2_with fail
  refine (ibest_any _ xs _ (HR.out.below B1.out) HG.out).mono ?_
  rintro e w2 ⟨rfl, b2⟩
  rw [← HM.out]
  have B2 : Hid (Below w.heap.size w w2) := B1.out.trans (b2.mono B1.out.size)
  clear b2
  go_wp2
  go_ret2
  exact ⟨rfl, B2.out⟩
end Go.Proofs.Ytpkngcamaahhdax
