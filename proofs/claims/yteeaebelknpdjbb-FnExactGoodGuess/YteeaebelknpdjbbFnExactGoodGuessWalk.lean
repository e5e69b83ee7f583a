/-
  The law FnExactGoodGuess answers true at every argument.
-/
import Derived.Test.YteeaebelknpdjbbGoodGuessLaw
import Derived.Test.YteeaebelknpdjbbSGoodG
import Derived.Test.YteeaebelknpdjbbIGoodG
namespace Go.Proofs.Yteeaebelknpdjbb
open Go.RowKit

theorem FnExactGoodGuess_walk (x0 : GuEl) (w : World) :
    Calls Try.prog 4 #[(.agg #[.int .i64 x0.1, .int .i64 x0.2.1, .int .i64 x0.2.2.1, .int .i64 x0.2.2.2])] w fun e w' => e = .returned (.bool true) ∧ Below w.heap.size w w' := by
  exact FnExactGoodGuess_law x0 w (goodG x0) (fun w => sgoodG_eq x0 _ rfl w) (fun w => igoodG_eq x0 _ rfl w)
end Go.Proofs.Yteeaebelknpdjbb
