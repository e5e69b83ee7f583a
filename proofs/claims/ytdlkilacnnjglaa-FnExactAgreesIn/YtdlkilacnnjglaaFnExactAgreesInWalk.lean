/-
  The law FnExactAgreesIn answers true at any court.
-/
import Derived.Test.YtdlkilacnnjglaaAgreesInLaw
import Derived.Test.YtdlkilacnnjglaaSCoOpen
import Derived.Test.YtdlkilacnnjglaaICoOpen
namespace Go.Proofs.Ytdlkilacnnjglaa
open Go.RowKit

theorem FnExactAgreesIn_walk (v0 : Value) (D0 : CoD) (w : World) (h0 : CoArg w v0 D0) :
    Calls Try.prog 6 #[v0] w fun e w' => e = .returned (.bool true) ∧ Below w.heap.size w w' :=
  FnExactAgreesIn_law v0 D0 w h0 (goodC D0) (goodC D0) (fun v w r => sagreesIn_eq v D0 w r) (fun v w r => iagreesIn_eq v D0 w r)
end Go.Proofs.Ytdlkilacnnjglaa
