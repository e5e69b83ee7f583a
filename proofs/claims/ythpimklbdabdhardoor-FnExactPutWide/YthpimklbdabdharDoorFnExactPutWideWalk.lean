/-
  The law FnExactPutWide answers true at every number and size.
-/
import Derived.Test.YthpimklbdabdharDoorSPutWide
namespace Go.Proofs.YthpimklbdabdharDoor
open Go.RowKit

theorem FnExactPutWide_walk (n k : Int) (w : World) (hT : Tab w) (_hn : (Lit.int .i64 n).wf = true) (_hk : (Lit.int .i64 k).wf = true) :
    Calls Tryd.prog 4 #[.int .i64 n, .int .i64 k] w fun e w' => e = .returned (.bool true) ∧ Below w.heap.size w w' := by
  have HT : Hid (Tab w) := hT
  have hlt := hT.lt
  clear hT
  by_cases h : 0 ≤ n ∧ n ≤ 1152921504606846975 ∧ (k = 1 ∨ k = 2 ∨ k = 4 ∨ k = 8) ∧ szI n ≤ k
  · obtain ⟨h0, h1, h2, h3⟩ := h
    have H2 : Hid (k = 1 ∨ k = 2 ∨ k = 4 ∨ k = 8) := h2
    clear h2
    go_enter Tryd.func4, Tryd.ntmps4
    go_wp2_with (first
      | (go_at_call 11; refine (sputWide_yes n k _ h0 h1 H2.out h3).mono ?_; rintro e w1 ⟨rfl, hb1⟩)
      | (go_at_call 12; refine (putWide_int n k _ (HT.out.below hb1 hlt) h0 h1 H2.out h3).mono ?_; rintro e w2 ⟨rfl, hb2⟩))
    go_ret
    exact ⟨rfl, hb1.trans (hb2.mono hb1.size)⟩
  · have H : Hid (¬ (0 ≤ n ∧ n ≤ 1152921504606846975 ∧ (k = 1 ∨ k = 2 ∨ k = 4 ∨ k = 8) ∧ szI n ≤ k)) := h
    clear h
    go_enter Tryd.func4, Tryd.ntmps4
    go_wp2_with (first
      | (go_at_call 11; refine (sputWide_no n k _ H.out).mono ?_; rintro e w' ⟨rfl, hw⟩; obtain rfl := hw.symm)
      | (go_at_call 12; refine (putWide_no n k _ HT.out H.out).mono ?_; rintro e w' ⟨rfl, hw⟩; obtain rfl := hw.symm))
    go_ret
    exact ⟨rfl, Below.refl _ _⟩
end Go.Proofs.YthpimklbdabdharDoor
