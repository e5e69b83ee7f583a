/-
  The law FnExactGetText answers true at every text and place.
-/
import Derived.Test.YthpimklbdabdharDoorGetText
namespace Go.Proofs.YthpimklbdabdharDoor
open Go.RowKit

theorem FnExactGetText_walk (s : ByteArray) (a : Int) (w : World) (hT : Tab w) (hs : s.size ≤ maxLen) (_ha : (Lit.int .i64 a).wf = true) :
    Calls Tryd.prog 8 #[.string s, .int .i64 a] w fun e w' => e = .returned (.bool true) ∧ Below w.heap.size w w' := by
  have HT : Hid (Tab w) := hT
  have hs' := hs
  unfold maxLen at hs'
  clear hT
  by_cases hl : (1048576 : Int) < (s.size : Int)
  · go_enter Tryd.func8, Tryd.ntmps8
    go_wp2
    go_ret
    exact ⟨rfl, Below.refl _ _⟩
  by_cases h : 0 ≤ a ∧ TextAt s a.toNat
  · obtain ⟨k, rfl⟩ := Int.eq_ofNat_of_zero_le h.1
    have HG : Hid (TextAt s k) := by show TextAt s k; simpa using h.2
    clear h
    go_enter Tryd.func8, Tryd.ntmps8
    go_wp2_with (first
      | (go_at_call 23; refine (sgetText_yes s k _ hs HG.out).mono ?_; rintro e w' ⟨rfl, hw⟩; obtain rfl := hw.symm)
      | (go_at_call 24; refine (getText_yes s k _ HT.out hs HG.out).mono ?_; rintro e w1 ⟨rfl, hb⟩))
    go_ret
    exact ⟨rfl, hb⟩
  · have HG : Hid (¬ (0 ≤ a ∧ TextAt s a.toNat)) := h
    clear h
    go_enter Tryd.func8, Tryd.ntmps8
    go_wp2_with (first
      | (go_at_call 23; refine (sgetText_no s a _ hs HG.out).mono ?_; rintro e w' ⟨rfl, hw⟩; obtain rfl := hw.symm)
      | (go_at_call 24; refine (getText_no s a _ HT.out hs HG.out).mono ?_; rintro e w' ⟨rfl, hw⟩; obtain rfl := hw.symm))
    go_ret
    exact ⟨rfl, Below.refl _ _⟩
end Go.Proofs.YthpimklbdabdharDoor
