/-
  laws.toSpanS answers with new ones that read as its argument, laws.eqSpanS with true for two slices that read alike; nothing old is written.
-/
import Derived.Test.YtkmdkfegpgkkmatKSpanRows
import Derived.Deep.RegionWith
namespace Go.Proofs.Ytkmdkfegpgkkmat
open Go.RowKit

theorem toSpan_any (p q : Int) (w : World) : Calls Try.prog 11 #[(.agg #[.int .i64 p, .int .i64 q])] w fun e w' => e = .returned (.agg #[.int .i64 p, .int .i64 q]) ∧ Below w.heap.size w w' := by
  go_enter Try.func11, Try.ntmps11
  go_wp2
  go_returns
  refine ⟨rfl, ?_⟩
  go_grown
theorem eqSpan_same (p q : Int) (w : World) : Calls Try.prog 18 #[(.agg #[.int .i64 p, .int .i64 q]), (.agg #[.int .i64 p, .int .i64 q])] w fun e w' => e = .returned (.bool true) ∧ Below w.heap.size w w' := by
  go_enter Try.func18, Try.ntmps18
  go_wp2
  go_ret
  refine ⟨rfl, ?_⟩
  go_grown
end Go.Proofs.Ytkmdkfegpgkkmat
