/-
  laws.eqGuess: it is as it was. Nothing old is written.
-/
import Derived.Test.YteeaebelknpdjbbGuForm
import Derived.Deep.RegionWith
namespace Go.Proofs.Yteeaebelknpdjbb
open Go.RowKit

theorem eqGuess_same (p : Int) (q : Int) (r : Int) (s : Int) (w : World) : Calls Try.prog 11 #[(.agg #[.int .i64 p, .int .i64 q, .int .i64 r, .int .i64 s]), (.agg #[.int .i64 p, .int .i64 q, .int .i64 r, .int .i64 s])] w fun e w' => e = .returned (.bool true) ∧ Below w.heap.size w w' := by
  go_enter Try.func11, Try.ntmps11
  go_wp2
  go_ret
  refine ⟨rfl, ?_⟩
  go_grown
end Go.Proofs.Yteeaebelknpdjbb
