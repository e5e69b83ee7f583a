/-
  The law FnExactIsSettled answers true at any court.
-/
import Derived.Test.YtdlkilacnnjglaaIsSettledLaw
import Derived.Test.YtdlkilacnnjglaaSCoOpen
import Derived.Test.YtdlkilacnnjglaaICoOpen
namespace Go.Proofs.Ytdlkilacnnjglaa
open Go.RowKit

theorem FnExactIsSettled_walk (v0 : Value) (D0 : CoD) (w : World) (h0 : CoArg w v0 D0) :
    Calls Try.prog 5 #[v0] w fun e w' => e = .returned (.bool true) ∧ Below w.heap.size w w' :=
  FnExactIsSettled_law v0 D0 w h0 (goodC D0 && decide (openC D0.f1 < 0)) (goodC D0) (fun v w r => sisSettled_eq v D0 w r) (fun v w r => iisSettled_eq v D0 w r)
end Go.Proofs.Ytdlkilacnnjglaa
