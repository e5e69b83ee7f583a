/-
  spec.SizeOf answers with the size of a number of the document, or with the zero answer.
-/
import Derived.Test.YthpimklbdabdhaaDoorSize
namespace Go.Proofs.YthpimklbdabdhaaDoor
open Go.RowKit

/-- spec.SizeOf. -/
theorem ssize_yes (n : Int) (w : World) (h0 : 0 ≤ n) (h1 : n ≤ 1152921504606846975) :
    Calls Tryd.prog 9 #[.int .i64 n] w fun e w' => e = .returned (.tuple #[.int .i64 (szI n), .bool true]) ∧ w' = w := by
  go_enter Tryd.func9, Tryd.ntmps9
  go_wp2_with (first
    | (go_at_call 30; refine (number_yes n _ h0 h1).mono ?_; rintro e w' ⟨rfl, rfl⟩)
    | (go_at_call 32; refine (l1Size_any n _).mono ?_; rintro e w' ⟨rfl, rfl⟩))
  go_ret2; exact ⟨rfl, rfl⟩
theorem ssize_no (n : Int) (w : World) (h : n < 0 ∨ 1152921504606846975 < n) :
    Calls Tryd.prog 9 #[.int .i64 n] w fun e w' => e = .returned (.tuple #[.int .i64 0, .bool false]) ∧ w' = w := by
  go_enter Tryd.func9, Tryd.ntmps9
  go_wp2_with (first
    | (go_at_call 30; refine (number_no n _ h).mono ?_; rintro e w' ⟨rfl, rfl⟩))
  go_ret2; exact ⟨rfl, rfl⟩

end Go.Proofs.YthpimklbdabdhaaDoor
