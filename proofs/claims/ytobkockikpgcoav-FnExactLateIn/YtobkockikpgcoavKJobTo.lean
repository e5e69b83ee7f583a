/-
  laws.toJobS answers with new ones that read as its argument, laws.eqJobS with true for two slices that read alike; nothing old is written.
-/
import Derived.Test.YtobkockikpgcoavKJobRows
import Derived.Deep.RegionWith
namespace Go.Proofs.Ytobkockikpgcoav
open Go.RowKit

theorem toJob_any (p q r : Int) (w : World) : Calls Try.prog 28 #[(.agg #[.int .i64 p, .int .i64 q, .int .i64 r])] w fun e w' => e = .returned (.agg #[.int .i64 p, .int .i64 q, .int .i64 r]) ∧ Below w.heap.size w w' := by
  go_enter Try.func28, Try.ntmps28
  go_wp2
  go_returns
  refine ⟨rfl, ?_⟩
  go_grown
theorem eqJob_same (p q r : Int) (w : World) : Calls Try.prog 31 #[(.agg #[.int .i64 p, .int .i64 q, .int .i64 r]), (.agg #[.int .i64 p, .int .i64 q, .int .i64 r])] w fun e w' => e = .returned (.bool true) ∧ Below w.heap.size w w' := by
  go_enter Try.func31, Try.ntmps31
  go_wp2
  go_ret
  refine ⟨rfl, ?_⟩
  go_grown
end Go.Proofs.Ytobkockikpgcoav
