/-
  impl.CompletionsOf: when each task is done, in memory of its own. Nothing old is written.
-/
import Derived.Test.YtpkngcamaahhdabITask
import Derived.Test.YtpkngcamaahhdabIOrd
import Derived.Test.YtpkngcamaahhdabIDone
namespace Go.Proofs.Ytpkngcamaahhdab
open Go.RowKit

set_option maxHeartbeats 2000000 in
theorem icomp_no (v vo : Value) (xs : List TkEl) (ys : List Int) (w : World) (hr : TkReads w v xs) (hs : KReads w vo ys) (hn : (goodT xs && ordB xs.length ys) = false) :
    Calls Try.prog 32 #[v, vo] w fun e w' => ∃ u0, e = .returned (.tuple #[u0, .bool false]) ∧ KOwn w.heap.size w'.heap.size w' u0 [] ∧ Below w.heap.size w w' := by
  have HR := hid hr
  have HS := hid hs
  have HN := hid hn
  obtain ⟨a, cap, rfl, _, _⟩ := hr
  clear hs hn
  obtain ⟨b, hb⟩ : ∃ b, goodT xs = b := ⟨_, rfl⟩
  have HG := hid hb
  cases b
  · clear hb
    go_enter Try.func32, Try.ntmps32
    go_wp2_with fail
    refine (igoodTasks_eq _ xs false HG.out _ HR.out).mono ?_
    rintro e w1 ⟨rfl, b1⟩
    have B1 := hid b1
    clear b1
    go_wp2
    go_ret2
    exact ⟨_, rfl, kown_nil _ _ _ _ _, B1.out⟩
  · have hl := goodT_len hb
    have HO : Hid (ordB xs.length ys = false) := by have := HN.out; rw [hb, Bool.true_and] at this; exact this
    clear hb
    go_enter Try.func32, Try.ntmps32
    go_wp2_with fail
    refine (igoodTasks_eq _ xs true HG.out _ HR.out).mono ?_
    rintro e w1 ⟨rfl, b1⟩
    have B1 := hid b1
    clear b1
    go_wp2_with fail
    refine (igoodOrder_eq _ ys xs.length false HO.out (by omega) _ (HS.out.below B1.out)).mono ?_
    rintro e w2 ⟨rfl, b2⟩
    have B2 : Hid (Below w.heap.size w w2) := B1.out.trans (b2.mono B1.out.size)
    clear b2
    go_wp2
    go_ret2
    exact ⟨_, rfl, kown_nil _ _ _ _ _, B2.out⟩
set_option maxHeartbeats 4000000 in
theorem icomp_yes (v vo : Value) (xs : List TkEl) (os : List Nat) (w : World) (hr : TkReads w v xs) (hs : KReads w vo (ofN os)) (hg : goodT xs = true) (ho : os.Perm (List.range xs.length)) :
    Calls Try.prog 32 #[v, vo] w fun e w' => ∃ u0, e = .returned (.tuple #[u0, .bool true]) ∧ KOwn w.heap.size w'.heap.size w' u0 (doneL xs os) ∧ Below w.heap.size w w' := by
  have HR := hid hr
  have HS := hid hs
  have HG := hid hg
  have HP := hid ho
  have hl := goodT_len hg
  have HO : Hid (ordB xs.length (ofN os) = true) := ordB_map ho
  obtain ⟨a, cap, rfl, _, _⟩ := hr
  clear hs hg ho
  go_enter Try.func32, Try.ntmps32
  go_wp2_with fail
  refine (igoodTasks_eq _ xs true HG.out _ HR.out).mono ?_
  rintro e w1 ⟨rfl, b1⟩
  have B1 := hid b1
  clear b1
  go_wp2_with fail
  refine (igoodOrder_eq _ (ofN os) xs.length true HO.out (by omega) _ (HS.out.below B1.out)).mono ?_
  rintro e w2 ⟨rfl, b2⟩
  have B2 : Hid (Below w.heap.size w w2) := B1.out.trans (b2.mono B1.out.size)
  clear b2
  go_wp2_with fail
  refine (idone_any _ vo xs os _ (HR.out.below B2.out) (HS.out.below B2.out) HG.out HP.out).mono ?_
  rintro e w3 ⟨rfl, hrow, b3⟩
  have O3 := hid hrow
  have hz := B2.out.size
  have B3 : Hid (Below w.heap.size w w3) := B2.out.trans (b3.mono B2.out.size)
  clear hrow b3
  go_wp2
  go_ret2
  exact ⟨_, rfl, O3.out.own (by omega) hz O3.out.caps.2.2, B3.out⟩
end Go.Proofs.Ytpkngcamaahhdab
