/-
  laws.toWayS answers with new ones that read as its argument, laws.eqWayS with true for two slices that read alike; nothing old is written.
-/
import Derived.Test.YtflhlinkolbbiamKWayRows
import Derived.Deep.RegionWith
namespace Go.Proofs.Ytflhlinkolbbiam
open Go.RowKit

theorem toWay_any (p q : Int) (w : World) : Calls Try.prog 42 #[(.agg #[.int .i64 p, .int .i64 q])] w fun e w' => e = .returned (.agg #[.int .i64 p, .int .i64 q]) ∧ Below w.heap.size w w' := by
  go_enter Try.func42, Try.ntmps42
  go_wp2
  go_returns
  refine ⟨rfl, ?_⟩
  go_grown
theorem eqWay_same (p q : Int) (w : World) : Calls Try.prog 48 #[(.agg #[.int .i64 p, .int .i64 q]), (.agg #[.int .i64 p, .int .i64 q])] w fun e w' => e = .returned (.bool true) ∧ Below w.heap.size w w' := by
  go_enter Try.func48, Try.ntmps48
  go_wp2
  go_ret
  refine ⟨rfl, ?_⟩
  go_grown
end Go.Proofs.Ytflhlinkolbbiam
