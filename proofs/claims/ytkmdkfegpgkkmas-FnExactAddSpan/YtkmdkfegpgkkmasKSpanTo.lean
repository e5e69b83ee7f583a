/-
  laws.toSpanS answers with new ones that read as its argument, laws.eqSpanS with true for two slices that read alike; nothing old is written.
-/
import Derived.Test.YtkmdkfegpgkkmasKSpanRows
import Derived.Deep.RegionWith
namespace Go.Proofs.Ytkmdkfegpgkkmas
open Go.RowKit

theorem toSpan_any (p q : Int) (w : World) : Calls Try.prog 15 #[(.agg #[.int .i64 p, .int .i64 q])] w fun e w' => e = .returned (.agg #[.int .i64 p, .int .i64 q]) ∧ Below w.heap.size w w' := by
  go_enter Try.func15, Try.ntmps15
  go_wp2
  go_returns
  refine ⟨rfl, ?_⟩
  go_grown
theorem eqSpan_same (p q : Int) (w : World) : Calls Try.prog 29 #[(.agg #[.int .i64 p, .int .i64 q]), (.agg #[.int .i64 p, .int .i64 q])] w fun e w' => e = .returned (.bool true) ∧ Below w.heap.size w w' := by
  go_enter Try.func29, Try.ntmps29
  go_wp2
  go_ret
  refine ⟨rfl, ?_⟩
  go_grown
end Go.Proofs.Ytkmdkfegpgkkmas
