/-
  laws.eqSpan with true for two that are alike; nothing old is written.
-/
import Derived.Test.YthmkeinhjlmgmahKSpanRows
import Derived.Deep.RegionWith
namespace Go.Proofs.Ythmkeinhjlmgmah
open Go.RowKit

theorem eqSpan_same (p q : Int) (w : World) : Calls Try.prog 63 #[(.agg #[.int .i64 p, .int .i64 q]), (.agg #[.int .i64 p, .int .i64 q])] w fun e w' => e = .returned (.bool true) ∧ Below w.heap.size w w' := by
  go_enter Try.func63, Try.ntmps63
  go_wp2
  go_ret
  refine ⟨rfl, ?_⟩
  go_grown
end Go.Proofs.Ythmkeinhjlmgmah
