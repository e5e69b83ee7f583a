/-
  laws.toSpan answers with a span like its argument; nothing old is written.
-/
import Derived.Test.YtkmdkfegpgkkmatDoorSpans
namespace Go.Proofs.YtkmdkfegpgkkmatDoor
open Go.RowKit

theorem toSpan_any (p q : Int) (w : World) : Calls Tryd.prog 5 #[.agg #[.int .i64 p, .int .i64 q]] w fun e w' => e = .returned (.agg #[.int .i64 p, .int .i64 q]) ∧ Below w.heap.size w w' := by
  go_enter Tryd.func5, Tryd.ntmps5
  go_wp2
  go_returns
  refine ⟨rfl, ?_⟩
  go_grown
end Go.Proofs.YtkmdkfegpgkkmatDoor
