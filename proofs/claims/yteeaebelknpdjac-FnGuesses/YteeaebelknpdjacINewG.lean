/-
  impl.NewGuess: the first guess. Nothing old is written.
-/
import Derived.Test.YteeaebelknpdjacGuForm
namespace Go.Proofs.Yteeaebelknpdjac
open Go.RowKit

set_option maxHeartbeats 2000000 in
theorem inewG_no (f : Int) (h : newB f = false) (w : World) : Calls Try.prog 58 #[.int .i64 f] w fun e w' => e = .returned (.tuple #[guV (0, 0, 0, 0), .bool false]) ∧ Below w.heap.size w w' := by
  have H1 : ¬ (1 ≤ f ∧ f ≤ 1000) := by unfold newB at h; simpa using h
  clear h
  by_cases h1 : f < 1
  · have d1 : decide (f < 1) = true := by simpa using h1
    go_enter Try.func58, Try.ntmps58
    go_wp2
    go_returns
    exact ⟨rfl, by go_grown⟩
  · have d1 : decide (f < 1) = false := by simpa using h1
    have d2 : decide (1000 < f) = true := by simp; omega
    go_enter Try.func58, Try.ntmps58
    go_wp2
    go_returns
    exact ⟨rfl, by go_grown⟩
set_option maxHeartbeats 2000000 in
theorem inewG_yes (f : Int) (h : newB f = true) (w : World) : Calls Try.prog 58 #[.int .i64 f] w fun e w' => e = .returned (.tuple #[guV (newG f), .bool true]) ∧ Below w.heap.size w w' := by
  have hf : 1 ≤ f ∧ f ≤ 1000 := by unfold newB at h; simpa using h
  have e1 : IntKind.i64.wrap (8 * f) = 8 * f := by rw [IntKind.wrap_i64]; omega
  have e2 : IntKind.i64.wrap (2 * f) = 2 * f := by rw [IntKind.wrap_i64]; omega
  have d1 : decide (f < 1) = false := by simp; omega
  have d2 : decide (1000 < f) = false := by simp; omega
  clear h
  show Calls Try.prog 58 #[.int .i64 f] w fun e w' => e = .returned (.tuple #[.agg #[.int .i64 (8 * f), .int .i64 (2 * f), .int .i64 1, .int .i64 0], .bool true]) ∧ Below w.heap.size w w'
  go_enter Try.func58, Try.ntmps58
  go_wp2
  go_returns
  exact ⟨rfl, by go_grown⟩
end Go.Proofs.Yteeaebelknpdjac
