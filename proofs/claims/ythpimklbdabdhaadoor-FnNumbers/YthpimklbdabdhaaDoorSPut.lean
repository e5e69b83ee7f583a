/-
  spec.PutNumber answers with the text of a number, or with the zero answer; nothing old is written.
-/
import Derived.Test.YthpimklbdabdhaaDoorPutNumber
namespace Go.Proofs.YthpimklbdabdhaaDoor
open Go.RowKit

/-- spec.PutNumber. -/
theorem sput_yes (n : Int) (w : World) (h0 : 0 ≤ n) (h1 : n ≤ 1152921504606846975) :
    Calls Tryd.prog 7 #[.int .i64 n] w fun e w' => e = .returned (.tuple #[.string (numB n), .bool true]) ∧ Below w.heap.size w w' := by
  go_enter Tryd.func7, Tryd.ntmps7
  go_wp2_with (first
    | (go_at_call 30; refine (number_yes n _ h0 h1).mono ?_; rintro e w' ⟨rfl, hw⟩; obtain rfl := hw.symm)
    | (go_at_call 31; refine (l1Put_any n _ h0 h1).mono ?_; rintro e w' ⟨rfl, hb⟩))
  go_ret2
  exact ⟨rfl, hb⟩
theorem sput_no (n : Int) (w : World) (h : n < 0 ∨ 1152921504606846975 < n) :
    Calls Tryd.prog 7 #[.int .i64 n] w fun e w' => e = .returned (.tuple #[.string ⟨#[]⟩, .bool false]) ∧ w' = w := by
  have H : Hid (n < 0 ∨ 1152921504606846975 < n) := h
  clear h
  go_enter Tryd.func7, Tryd.ntmps7
  go_wp2_with (first
    | (go_at_call 30; refine (number_no n _ H.out).mono ?_; rintro e w' ⟨rfl, hw⟩; obtain rfl := hw.symm))
  go_ret2
  exact ⟨rfl, rfl⟩

end Go.Proofs.YthpimklbdabdhaaDoor
