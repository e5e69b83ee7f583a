/-
  The law FnExactSizeOf answers true at every number.
-/
import Derived.Test.YthpimklbdabdhaqDoorSSize
namespace Go.Proofs.YthpimklbdabdhaqDoor
open Go.RowKit

theorem FnExactSizeOf_walk (n : Int) (w : World) (hT : Tab w) (_hn : (Lit.int .i64 n).wf = true) :
    Calls Tryd.prog 3 #[.int .i64 n] w fun e w' => e = .returned (.bool true) ∧ Below w.heap.size w w' := by
  have HT : Hid (Tab w) := hT
  clear hT
  by_cases h : 0 ≤ n ∧ n ≤ 1152921504606846975
  · obtain ⟨h0, h1⟩ := h
    go_enter Tryd.func3, Tryd.ntmps3
    go_wp2_with (first
      | (go_at_call 5; refine (ssize_yes n _ h0 h1).mono ?_; rintro e w' ⟨rfl, hw⟩; obtain rfl := hw.symm)
      | (go_at_call 6; refine (size_yes n _ HT.out h0 h1).mono ?_; rintro e w' ⟨rfl, hw⟩; obtain rfl := hw.symm))
    go_ret
    exact ⟨rfl, Below.refl _ _⟩
  · have h' : n < 0 ∨ 1152921504606846975 < n := by omega
    clear h
    have H' : Hid (n < 0 ∨ 1152921504606846975 < n) := h'
    clear h'
    go_enter Tryd.func3, Tryd.ntmps3
    go_wp2_with (first
      | (go_at_call 5; refine (ssize_no n _ H'.out).mono ?_; rintro e w' ⟨rfl, hw⟩; obtain rfl := hw.symm)
      | (go_at_call 6; refine (size_no n _ HT.out H'.out).mono ?_; rintro e w' ⟨rfl, hw⟩; obtain rfl := hw.symm))
    go_ret
    exact ⟨rfl, Below.refl _ _⟩
end Go.Proofs.YthpimklbdabdhaqDoor
