/-
  laws.toGuess, laws.eqGuess: it is as it was. Nothing old is written.
-/
import Derived.Test.YteeaebelknpdjbbGuForm
import Derived.Deep.RegionWith
namespace Go.Proofs.Yteeaebelknpdjbb
open Go.RowKit

theorem toGuess_any (p : Int) (q : Int) (r : Int) (s : Int) (w : World) : Calls Try.prog 13 #[(.agg #[.int .i64 p, .int .i64 q, .int .i64 r, .int .i64 s])] w fun e w' => e = .returned (.agg #[.int .i64 p, .int .i64 q, .int .i64 r, .int .i64 s]) ∧ Below w.heap.size w w' := by
  go_enter Try.func13, Try.ntmps13
  go_wp2
  go_returns
  refine ⟨rfl, ?_⟩
  go_grown
end Go.Proofs.Yteeaebelknpdjbb
