/-
  laws.toSpanS answers with new ones that read as its argument, laws.eqSpanS with true for two slices that read alike; nothing old is written.
-/
import Derived.Test.YtdejnafkfehmdaaKSpanRows
import Derived.Deep.RegionWith
namespace Go.Proofs.Ytdejnafkfehmdaa
open Go.RowKit

theorem toSpan_any (p q : Int) (w : World) : Calls Try.prog 87 #[(.agg #[.int .i64 p, .int .i64 q])] w fun e w' => e = .returned (.agg #[.int .i64 p, .int .i64 q]) ∧ Below w.heap.size w w' := by
  go_enter Try.func87, Try.ntmps87
  go_wp2
  go_returns
  refine ⟨rfl, ?_⟩
  go_grown
theorem eqSpan_same (p q : Int) (w : World) : Calls Try.prog 88 #[(.agg #[.int .i64 p, .int .i64 q]), (.agg #[.int .i64 p, .int .i64 q])] w fun e w' => e = .returned (.bool true) ∧ Below w.heap.size w w' := by
  go_enter Try.func88, Try.ntmps88
  go_wp2
  go_ret
  refine ⟨rfl, ?_⟩
  go_grown
end Go.Proofs.Ytdejnafkfehmdaa
