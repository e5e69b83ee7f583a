/-
  The law FnExactGoodGreet answers true at any greeting.
-/
import Derived.Test.YtgdclnejlhfhlanGoodGreetLaw
import Derived.Test.YtgdclnejlhfhlanSGoodGr
import Derived.Test.YtgdclnejlhfhlanIGoodGr
namespace Go.Proofs.Ytgdclnejlhfhlan
open Go.RowKit

theorem FnExactGoodGreet_walk (v0 : Value) (D0 : GrD) (w : World) (h0 : GrArg w v0 D0) :
    Calls Try.prog 3 #[v0] w fun e w' => e = .returned (.bool true) ∧ Below w.heap.size w w' :=
  FnExactGoodGreet_law v0 D0 w h0 (goodG D0) (fun v w r => sgoodGr_eq v D0 _ rfl w r) (fun v w r => igoodGr_eq v D0 _ rfl w r)
end Go.Proofs.Ytgdclnejlhfhlan
