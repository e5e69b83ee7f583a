/-
  laws.toHelloS answers with new ones that read as its argument, laws.eqHelloS with true for two slices that read alike; nothing old is written.
-/
import Derived.Test.YtgdclnejlhfhlanKHelloRows
import Derived.Deep.RegionWith
namespace Go.Proofs.Ytgdclnejlhfhlan
open Go.RowKit

theorem toHello_any (p q r : Int) (w : World) : Calls Try.prog 35 #[(.agg #[.int .i64 p, .int .i64 q, .int .i64 r])] w fun e w' => e = .returned (.agg #[.int .i64 p, .int .i64 q, .int .i64 r]) ∧ Below w.heap.size w w' := by
  go_enter Try.func35, Try.ntmps35
  go_wp2
  go_returns
  refine ⟨rfl, ?_⟩
  go_grown
theorem eqHello_same (p q r : Int) (w : World) : Calls Try.prog 59 #[(.agg #[.int .i64 p, .int .i64 q, .int .i64 r]), (.agg #[.int .i64 p, .int .i64 q, .int .i64 r])] w fun e w' => e = .returned (.bool true) ∧ Below w.heap.size w w' := by
  go_enter Try.func59, Try.ntmps59
  go_wp2
  go_ret
  refine ⟨rfl, ?_⟩
  go_grown
end Go.Proofs.Ytgdclnejlhfhlan
