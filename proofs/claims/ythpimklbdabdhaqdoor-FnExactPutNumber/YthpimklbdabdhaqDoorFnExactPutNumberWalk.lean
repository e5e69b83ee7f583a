/-
  The law FnExactPutNumber answers true at every number.
-/
import Derived.Test.YthpimklbdabdhaqDoorSPut
namespace Go.Proofs.YthpimklbdabdhaqDoor
open Go.RowKit

theorem FnExactPutNumber_walk (n : Int) (w : World) (hT : Tab w) (_hn : (Lit.int .i64 n).wf = true) :
    Calls Tryd.prog 4 #[.int .i64 n] w fun e w' => e = .returned (.bool true) ∧ Below w.heap.size w w' := by
  have HT : Hid (Tab w) := hT
  have hlt := hT.lt
  clear hT
  by_cases h : 0 ≤ n ∧ n ≤ 1152921504606846975
  · obtain ⟨h0, h1⟩ := h
    go_enter Tryd.func4, Tryd.ntmps4
    go_wp2_with (first
      | (go_at_call 7; refine (sput_yes n _ h0 h1).mono ?_; rintro e w1 ⟨rfl, hb1⟩)
      | (go_at_call 8; refine (put_yes n _ (HT.out.below hb1 hlt) h0 h1).mono ?_; rintro e w2 ⟨rfl, hb2⟩))
    go_ret
    exact ⟨rfl, hb1.trans (hb2.mono hb1.size)⟩
  · have H' : Hid (n < 0 ∨ 1152921504606846975 < n) := by show _ ∨ _; omega
    clear h
    go_enter Tryd.func4, Tryd.ntmps4
    go_wp2_with (first
      | (go_at_call 7; refine (sput_no n _ H'.out).mono ?_; rintro e w' ⟨rfl, hw⟩; obtain rfl := hw.symm)
      | (go_at_call 8; refine (put_no n _ HT.out H'.out).mono ?_; rintro e w' ⟨rfl, hw⟩; obtain rfl := hw.symm))
    go_ret
    exact ⟨rfl, Below.refl _ _⟩
end Go.Proofs.YthpimklbdabdhaqDoor
