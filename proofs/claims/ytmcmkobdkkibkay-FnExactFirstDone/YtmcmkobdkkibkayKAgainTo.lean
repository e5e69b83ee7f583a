/-
  laws.toAgainS answers with new ones that read as its argument, laws.eqAgainS with true for two slices that read alike; nothing old is written.
-/
import Derived.Test.YtmcmkobdkkibkayKAgainRows
import Derived.Deep.RegionWith
namespace Go.Proofs.Ytmcmkobdkkibkay
open Go.RowKit

theorem toAgain_any (p q : Int) (w : World) : Calls Try.prog 18 #[(.agg #[.int .i64 p, .int .i64 q])] w fun e w' => e = .returned (.agg #[.int .i64 p, .int .i64 q]) ∧ Below w.heap.size w w' := by
  go_enter Try.func18, Try.ntmps18
  go_wp2
  go_returns
  refine ⟨rfl, ?_⟩
  go_grown
theorem eqAgain_same (p q : Int) (w : World) : Calls Try.prog 22 #[(.agg #[.int .i64 p, .int .i64 q]), (.agg #[.int .i64 p, .int .i64 q])] w fun e w' => e = .returned (.bool true) ∧ Below w.heap.size w w' := by
  go_enter Try.func22, Try.ntmps22
  go_wp2
  go_ret
  refine ⟨rfl, ?_⟩
  go_grown
end Go.Proofs.Ytmcmkobdkkibkay
