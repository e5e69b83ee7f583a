/-
  The law FnExactSeeGuess answers true at every argument.
-/
import Derived.Test.YteeaebelknpdjbbSeeGuessLaw
import Derived.Test.YteeaebelknpdjbbSSeeG
import Derived.Test.YteeaebelknpdjbbISeeG
namespace Go.Proofs.Yteeaebelknpdjbb
open Go.RowKit

theorem FnExactSeeGuess_walk (x0 : GuEl) (x1 : SnEl) (w : World) :
    Calls Try.prog 5 #[(.agg #[.int .i64 x0.1, .int .i64 x0.2.1, .int .i64 x0.2.2.1, .int .i64 x0.2.2.2]), (.agg #[.int .i64 x1.1, .bool x1.2.1, .bool x1.2.2])] w fun e w' => e = .returned (.bool true) ∧ Below w.heap.size w w' := by
  exact FnExactSeeGuess_law x0 x1 w _ (goodG x0 && okS x1) (fun w => sseeG_any x0 x1 _ rfl _ rfl w) (fun w => iseeG_any x0 x1 _ rfl _ rfl w)
end Go.Proofs.Yteeaebelknpdjbb
