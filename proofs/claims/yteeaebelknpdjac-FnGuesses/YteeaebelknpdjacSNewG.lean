/-
  spec.NewGuess: the first guess. Nothing old is written.
-/
import Derived.Test.YteeaebelknpdjacSIn
import Derived.Test.YteeaebelknpdjacGuForm
namespace Go.Proofs.Yteeaebelknpdjac
open Go.RowKit

set_option maxHeartbeats 2000000 in
theorem snewG_no (f : Int) (h : newB f = false) (w : World) : Calls Try.prog 59 #[.int .i64 f] w fun e w' => e = .returned (.tuple #[guV (0, 0, 0, 0), .bool false]) ∧ Below w.heap.size w w' := by
  have H1 : Hid (decide (1 ≤ f ∧ f ≤ 1000) = false) := h
  clear h
  go_enter Try.func59, Try.ntmps59
  go_wp2_with fail
  refine (l1In_eq f 1 1000 false H1.out _).mono ?_
  rintro e w' ⟨rfl, hw⟩; obtain rfl := hw.symm
  go_wp2
  go_returns
  exact ⟨rfl, by go_grown⟩
set_option maxHeartbeats 2000000 in
theorem snewG_yes (f : Int) (h : newB f = true) (w : World) : Calls Try.prog 59 #[.int .i64 f] w fun e w' => e = .returned (.tuple #[guV (newG f), .bool true]) ∧ Below w.heap.size w w' := by
  have H1 : Hid (decide (1 ≤ f ∧ f ≤ 1000) = true) := h
  have hf : 1 ≤ f ∧ f ≤ 1000 := by simpa using H1.out
  have e1 : IntKind.i64.wrap (8 * f) = 8 * f := by rw [IntKind.wrap_i64]; omega
  have e2 : IntKind.i64.wrap (2 * f) = 2 * f := by rw [IntKind.wrap_i64]; omega
  clear h
  show Calls Try.prog 59 #[.int .i64 f] w fun e w' => e = .returned (.tuple #[.agg #[.int .i64 (8 * f), .int .i64 (2 * f), .int .i64 1, .int .i64 0], .bool true]) ∧ Below w.heap.size w w'
  go_enter Try.func59, Try.ntmps59
  go_wp2_with fail
  refine (l1In_eq f 1 1000 true H1.out _).mono ?_
  rintro e w' ⟨rfl, hw⟩; obtain rfl := hw.symm
  go_wp2
  go_returns
  exact ⟨rfl, by go_grown⟩
end Go.Proofs.Yteeaebelknpdjac
