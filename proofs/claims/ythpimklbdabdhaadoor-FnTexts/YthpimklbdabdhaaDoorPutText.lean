/-
  impl.PutText and spec.PutText answer with the length's bytes and the text, or with the zero answer; nothing old is written.
-/
import Derived.Test.YthpimklbdabdhaaDoorPutNumber
namespace Go.Proofs.YthpimklbdabdhaaDoor
open Go.RowKit

theorem putText_yes (s : ByteArray) (w : World) (hT : Tab w) (hs : s.size ≤ 200) :
    Calls Tryd.prog 24 #[.string s] w fun e w' => e = .returned (.tuple #[.string (numB s.size ++ s), .bool true]) ∧ Below w.heap.size w w' := by
  have HT : Hid (Tab w) := hT
  have hsz : (numB s.size).size ≤ 8 := by unfold numB; rw [size_wideB]; have := szI_le s.size; omega
  clear hT
  go_enter Tryd.func24, Tryd.ntmps24
  go_wp2_with (go_at_call 6; refine (put_yes s.size _ HT.out (by omega) (by omega)).mono ?_; rintro e w1 ⟨rfl, hb⟩)
  go_ret2
  exact ⟨rfl, hb⟩
theorem putText_no (s : ByteArray) (w : World) (_hm : s.size ≤ maxLen) (hs : (200 : Int) < (s.size : Int)) :
    Calls Tryd.prog 24 #[.string s] w fun e w' => e = .returned (.tuple #[.string ⟨#[]⟩, .bool false]) ∧ w' = w := by
  go_enter Tryd.func24, Tryd.ntmps24
  go_wp2
  go_ret2
  exact ⟨rfl, rfl⟩
theorem sputText_yes (s : ByteArray) (w : World) (hs : s.size ≤ 200) :
    Calls Tryd.prog 25 #[.string s] w fun e w' => e = .returned (.tuple #[.string (numB s.size ++ s), .bool true]) ∧ Below w.heap.size w w' := by
  have hsz : (numB s.size).size ≤ 8 := by unfold numB; rw [size_wideB]; have := szI_le s.size; omega
  go_enter Tryd.func25, Tryd.ntmps25
  go_wp2_with (go_at_call 31; refine (l1Put_any s.size _ (by omega) (by omega)).mono ?_; rintro e w1 ⟨rfl, hb⟩)
  go_ret2
  exact ⟨rfl, hb⟩
theorem sputText_no (s : ByteArray) (w : World) (_hm : s.size ≤ maxLen) (hs : (200 : Int) < (s.size : Int)) :
    Calls Tryd.prog 25 #[.string s] w fun e w' => e = .returned (.tuple #[.string ⟨#[]⟩, .bool false]) ∧ w' = w := by
  go_enter Tryd.func25, Tryd.ntmps25
  go_wp2
  go_ret2
  exact ⟨rfl, rfl⟩
end Go.Proofs.YthpimklbdabdhaaDoor
