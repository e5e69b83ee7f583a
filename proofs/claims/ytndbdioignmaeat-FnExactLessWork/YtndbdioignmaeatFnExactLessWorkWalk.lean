/-
  The law FnExactLessWork answers true at any two.
-/
import Derived.Test.YtndbdioignmaeatLessWorkLaw
import Derived.Test.YtndbdioignmaeatLessFns
namespace Go.Proofs.Ytndbdioignmaeat
open Go.RowKit

theorem FnExactLessWork_walk (x0 x1 : WkEl) (w : World) :
    Calls Try.prog 5 #[.agg #[.int .i64 x0.1, .int .i64 x0.2.1, .int .i64 x0.2.2], .agg #[.int .i64 x1.1, .int .i64 x1.2.1, .int .i64 x1.2.2]] w fun e w' => e = .returned (.bool true) ∧ Below w.heap.size w w' :=
  FnExactLessWork_law x0 x1 w (lessR x0 x1) (wkB x0 && wkB x1) (fun w => sLessWork_any x0 x1 w) (fun w => iLessWork_any x0 x1 w)
end Go.Proofs.Ytndbdioignmaeat
