/-
  impl.MooreOrder: Moore's order, in memory of its own. Nothing old is written.
-/
import Derived.Test.YtpkngcamaahhdawITask
import Derived.Test.YtpkngcamaahhdawIMoore
import Derived.OwnWalk
namespace Go.Proofs.Ytpkngcamaahhdaw
open Go.RowKit

set_option maxHeartbeats 1000000 in
theorem imoorefn_no (v : Value) (xs : List TkEl) (w : World) (hr : TkReads w v xs) (hg : goodT xs = false) :
    Calls Try.prog 34 #[v] w fun e w' => ∃ u0, e = .returned (.tuple #[u0, .int .i64 0, .bool false]) ∧ KOwn w.heap.size w'.heap.size w' u0 [] ∧ Below w.heap.size w w' := by
  have HR := hid hr
  clear hr
  go_enter Try.func34, Try.ntmps34
  go_wp2_with fail
  refine (igoodTasks_eq _ xs false hg _ HR.out).mono ?_
  rintro e w1 ⟨rfl, b1⟩
  have B1 := hid b1
  clear b1
  go_wp2
  go_ret3
  exact ⟨_, rfl, kown_nil _ _ _ _ _, B1.out⟩
set_option maxHeartbeats 1000000 in
theorem imoorefn_yes (v : Value) (xs : List TkEl) (w : World) (hr : TkReads w v xs) (hg : goodT xs = true) :
    Calls Try.prog 34 #[v] w fun e w' => ∃ u0, e = .returned (.tuple #[u0, .int .i64 ((mooreL xs).1.length : Nat), .bool true]) ∧ KOwn w.heap.size w'.heap.size w' u0 (ofN ((mooreL xs).1 ++ (mooreL xs).2)) ∧ Below w.heap.size w w' := by
  have HR := hid hr
  have HG := hid hg
  clear hr hg
  obtain ⟨L, hL⟩ : ∃ L, L = ofN ((mooreL xs).1 ++ (mooreL xs).2) := ⟨_, rfl⟩
  obtain ⟨m, hm⟩ : ∃ m, m = (mooreL xs).1.length := ⟨_, rfl⟩
  rw [← hL, ← hm]
  have HL := hid hL
  have HM := hid hm
  clear hL hm
  go_enter Try.func34, Try.ntmps34
  go_wp2_with fail
  refine (igoodTasks_eq _ xs true HG.out _ HR.out).mono ?_
  rintro e w1 ⟨rfl, b1⟩
  have B1 := hid b1
  clear b1
  go_wp2_with fail
  refine (imoore_any _ xs _ (HR.out.below B1.out) HG.out).mono ?_
  rintro e w2 ⟨u, rfl, hown, b2⟩
  rw [← HM.out]
  rw [← HL.out] at hown
  have O2 := hid (hown.mono B1.out.size (Nat.le_refl _))
  have B2 : Hid (Below w.heap.size w w2) := B1.out.trans (b2.mono B1.out.size)
  clear hown b2
  go_wp2
  go_ret3
  exact ⟨_, rfl, O2.out, B2.out⟩
end Go.Proofs.Ytpkngcamaahhdaw
