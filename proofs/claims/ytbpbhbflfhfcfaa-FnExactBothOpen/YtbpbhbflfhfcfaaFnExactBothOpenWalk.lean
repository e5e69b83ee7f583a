/-
  The law FnExactBothOpen answers true at any greeting.
-/
import Derived.Test.YtbpbhbflfhfcfaaBothOpenLaw
import Derived.Test.YtbpbhbflfhfcfaaSBothOp
import Derived.Test.YtbpbhbflfhfcfaaIBothOp
namespace Go.Proofs.Ytbpbhbflfhfcfaa
open Go.RowKit

theorem FnExactBothOpen_walk (v0 : Value) (D0 : GrD) (w : World) (h0 : GrArg w v0 D0) :
    Calls Try.prog 7 #[v0] w fun e w' => e = .returned (.bool true) ∧ Below w.heap.size w w' :=
  FnExactBothOpen_law v0 D0 w h0 _ _ (fun v w r => sbothOp_any v D0 w r) (fun v w r => ibothOp_any v D0 w r)
end Go.Proofs.Ytbpbhbflfhfcfaa
