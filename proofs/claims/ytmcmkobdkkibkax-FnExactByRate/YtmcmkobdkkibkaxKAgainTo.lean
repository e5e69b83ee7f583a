/-
  laws.toAgainS answers with new ones that read as its argument, laws.eqAgainS with true for two slices that read alike; nothing old is written.
-/
import Derived.Test.YtmcmkobdkkibkaxKAgainRows
import Derived.Deep.RegionWith
namespace Go.Proofs.Ytmcmkobdkkibkax
open Go.RowKit

theorem toAgain_any (p q : Int) (w : World) : Calls Try.prog 44 #[(.agg #[.int .i64 p, .int .i64 q])] w fun e w' => e = .returned (.agg #[.int .i64 p, .int .i64 q]) ∧ Below w.heap.size w w' := by
  go_enter Try.func44, Try.ntmps44
  go_wp2
  go_returns
  refine ⟨rfl, ?_⟩
  go_grown
theorem eqAgain_same (p q : Int) (w : World) : Calls Try.prog 47 #[(.agg #[.int .i64 p, .int .i64 q]), (.agg #[.int .i64 p, .int .i64 q])] w fun e w' => e = .returned (.bool true) ∧ Below w.heap.size w w' := by
  go_enter Try.func47, Try.ntmps47
  go_wp2
  go_ret
  refine ⟨rfl, ?_⟩
  go_grown
end Go.Proofs.Ytmcmkobdkkibkax
