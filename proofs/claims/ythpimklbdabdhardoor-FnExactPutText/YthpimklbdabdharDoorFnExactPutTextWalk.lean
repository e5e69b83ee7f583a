/-
  The law FnExactPutText answers true at every text.
-/
import Derived.Test.YthpimklbdabdharDoorPutText
namespace Go.Proofs.YthpimklbdabdharDoor
open Go.RowKit

theorem FnExactPutText_walk (s : ByteArray) (w : World) (hT : Tab w) (hs : s.size ≤ maxLen) :
    Calls Tryd.prog 7 #[.string s] w fun e w' => e = .returned (.bool true) ∧ Below w.heap.size w w' := by
  have HT : Hid (Tab w) := hT
  have hlt := hT.lt
  have hs' := hs
  unfold maxLen at hs'
  clear hT
  by_cases hl : (1048576 : Int) < (s.size : Int)
  · go_enter Tryd.func7, Tryd.ntmps7
    go_wp2
    go_ret
    exact ⟨rfl, Below.refl _ _⟩
  by_cases h : s.size ≤ 200
  · go_enter Tryd.func7, Tryd.ntmps7
    go_wp2_with (first
      | (go_at_call 21; refine (sputText_yes s _ h).mono ?_; rintro e w1 ⟨rfl, hb1⟩)
      | (go_at_call 22; refine (putText_yes s _ (HT.out.below hb1 hlt) h).mono ?_; rintro e w2 ⟨rfl, hb2⟩))
    go_ret
    exact ⟨rfl, hb1.trans (hb2.mono hb1.size)⟩
  · have h' : (200 : Int) < (s.size : Int) := by omega
    go_enter Tryd.func7, Tryd.ntmps7
    go_wp2_with (first
      | (go_at_call 21; refine (sputText_no s _ hs h').mono ?_; rintro e w' ⟨rfl, hw⟩; obtain rfl := hw.symm)
      | (go_at_call 22; refine (putText_no s _ hs h').mono ?_; rintro e w' ⟨rfl, hw⟩; obtain rfl := hw.symm))
    go_ret
    exact ⟨rfl, Below.refl _ _⟩
end Go.Proofs.YthpimklbdabdharDoor
