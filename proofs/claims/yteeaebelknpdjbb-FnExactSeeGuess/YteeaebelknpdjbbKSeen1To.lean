/-
  laws.toSeen: it is as it was. Nothing old is written.
-/
import Derived.Test.YteeaebelknpdjbbGuForm
import Derived.Deep.RegionWith
namespace Go.Proofs.Yteeaebelknpdjbb
open Go.RowKit

theorem toSeen_any (p : Int) (q : Bool) (r : Bool) (w : World) : Calls Try.prog 16 #[(.agg #[.int .i64 p, .bool q, .bool r])] w fun e w' => e = .returned (.agg #[.int .i64 p, .bool q, .bool r]) ∧ Below w.heap.size w w' := by
  go_enter Try.func16, Try.ntmps16
  go_wp2
  go_returns
  refine ⟨rfl, ?_⟩
  go_grown
end Go.Proofs.Yteeaebelknpdjbb
