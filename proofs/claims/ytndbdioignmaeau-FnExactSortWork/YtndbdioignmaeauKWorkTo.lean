/-
  laws.toWorkS answers with new ones that read as its argument, laws.eqWorkS with true for two slices that read alike; nothing old is written.
-/
import Derived.Test.YtndbdioignmaeauKWorkRows
import Derived.Deep.RegionWith
namespace Go.Proofs.Ytndbdioignmaeau
open Go.RowKit

theorem toWork_any (p q r : Int) (w : World) : Calls Try.prog 27 #[(.agg #[.int .i64 p, .int .i64 q, .int .i64 r])] w fun e w' => e = .returned (.agg #[.int .i64 p, .int .i64 q, .int .i64 r]) ∧ Below w.heap.size w w' := by
  go_enter Try.func27, Try.ntmps27
  go_wp2
  go_returns
  refine ⟨rfl, ?_⟩
  go_grown
theorem eqWork_same (p q r : Int) (w : World) : Calls Try.prog 13 #[(.agg #[.int .i64 p, .int .i64 q, .int .i64 r]), (.agg #[.int .i64 p, .int .i64 q, .int .i64 r])] w fun e w' => e = .returned (.bool true) ∧ Below w.heap.size w w' := by
  go_enter Try.func13, Try.ntmps13
  go_wp2
  go_ret
  refine ⟨rfl, ?_⟩
  go_grown
end Go.Proofs.Ytndbdioignmaeau
