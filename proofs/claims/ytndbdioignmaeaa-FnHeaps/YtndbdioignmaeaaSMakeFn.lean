/-
  spec.MakeHeap: a heap of a list of work. Nothing old is written.
-/
import Derived.Test.YtndbdioignmaeaaSMake
import Derived.Test.YtndbdioignmaeaaSGoodW
import Derived.Test.YtndbdioignmaeaaMakeMath
namespace Go.Proofs.Ytndbdioignmaeaa
open Go.RowKit

set_option maxHeartbeats 1000000 in
theorem sMakeHeap_any (v : Value) (xs : List WkEl) (w : World) (hr : WkReads w v xs) :
    Calls Try.prog 41 #[v] w fun e w' => ∃ v', e = .returned (.tuple #[v', .bool (goodW xs)]) ∧ WkOwn w.heap.size w'.heap.size w' v' (makeY xs) ∧ Below w.heap.size w w' := by
  have HR := hid hr
  clear hr
  unfold makeY
  cases hg : goodW xs with
  | false =>
    go_enter Try.func41, Try.ntmps41
    go_wp2_with fail
    refine (l3Good_eq v xs false hg _ HR.out).mono ?_
    rintro e w1 ⟨rfl, b1⟩
    have B1 := hid b1
    clear b1
    go_wp2
    go_ret2
    exact ⟨_, rfl, wkown_nil _ _ _ _ _, B1.out⟩
  | true =>
    have hl := goodW_len hg
    go_enter Try.func41, Try.ntmps41
    go_wp2_with fail
    refine (l3Good_eq v xs true hg _ HR.out).mono ?_
    rintro e w1 ⟨rfl, b1⟩
    have B1 := hid b1
    clear b1
    go_wp2_with fail
    refine (l3Make_any v xs xs rfl _ (HR.out.below B1.out) hl).mono ?_
    rintro e w2 ⟨v2, rfl, o2, b2⟩
    have O2 := hid (o2.mono B1.out.size (Nat.le_refl _))
    have B2 : Hid (Below w.heap.size w w2) := B1.out.trans (b2.mono B1.out.size)
    clear b2 o2 B1
    go_wp2
    go_ret2
    exact ⟨_, rfl, O2.out, B2.out⟩
end Go.Proofs.Ytndbdioignmaeaa
