/-
  The law FnExactSpreadOf answers true at any shares.
-/
import Derived.Test.YtepnhbicmlfnhagSpreadOfLaw
import Derived.Test.YtepnhbicmlfnhagSSpread
import Derived.Test.YtepnhbicmlfnhagISpread
namespace Go.Proofs.Ytepnhbicmlfnhag
open Go.RowKit

theorem FnExactSpreadOf_walk (v0 : Value) (D0 : ShD) (w : World) (h0 : ShArg w v0 D0) :
    Calls Try.prog 7 #[v0] w fun e w' => e = .returned (.bool true) ∧ Below w.heap.size w w' :=
  FnExactSpreadOf_law v0 D0 w h0 (sprR D0) (goodS D0) (fun v w r => sspread_any v D0 w r _ _ rfl rfl) (fun v w r => ispread_any v D0 w r _ _ rfl rfl)
end Go.Proofs.Ytepnhbicmlfnhag
