/-
  The law FnExactWaitOf answers true at every argument.
-/
import Derived.Test.YteeaebelknpdjbbWaitOfLaw
import Derived.Test.YteeaebelknpdjbbSWaitG
import Derived.Test.YteeaebelknpdjbbIWaitG
namespace Go.Proofs.Yteeaebelknpdjbb
open Go.RowKit

theorem FnExactWaitOf_walk (x0 : GuEl) (w : World) :
    Calls Try.prog 6 #[(.agg #[.int .i64 x0.1, .int .i64 x0.2.1, .int .i64 x0.2.2.1, .int .i64 x0.2.2.2])] w fun e w' => e = .returned (.bool true) ∧ Below w.heap.size w w' := by
  exact FnExactWaitOf_law x0 w _ (goodG x0) (fun w => swaitG_any x0 _ rfl _ rfl w) (fun w => iwaitG_any x0 _ rfl _ rfl w)
end Go.Proofs.Yteeaebelknpdjbb
