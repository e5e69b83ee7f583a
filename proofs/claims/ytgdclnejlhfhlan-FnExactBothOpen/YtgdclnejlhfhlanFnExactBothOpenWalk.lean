/-
  The law FnExactBothOpen answers true at any greeting.
-/
import Derived.Test.YtgdclnejlhfhlanBothOpenLaw
import Derived.Test.YtgdclnejlhfhlanSBothOp
import Derived.Test.YtgdclnejlhfhlanIBothOp
namespace Go.Proofs.Ytgdclnejlhfhlan
open Go.RowKit

theorem FnExactBothOpen_walk (v0 : Value) (D0 : GrD) (w : World) (h0 : GrArg w v0 D0) :
    Calls Try.prog 6 #[v0] w fun e w' => e = .returned (.bool true) ∧ Below w.heap.size w w' :=
  FnExactBothOpen_law v0 D0 w h0 _ _ (fun v w r => sbothOp_any v D0 w r) (fun v w r => ibothOp_any v D0 w r)
end Go.Proofs.Ytgdclnejlhfhlan
