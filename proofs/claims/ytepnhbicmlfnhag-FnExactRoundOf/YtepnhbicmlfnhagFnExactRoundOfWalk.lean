/-
  The law FnExactRoundOf answers true at any shares.
-/
import Derived.Test.YtepnhbicmlfnhagRoundOfLaw
import Derived.Test.YtepnhbicmlfnhagSRoundFn
import Derived.Test.YtepnhbicmlfnhagIRound
namespace Go.Proofs.Ytepnhbicmlfnhag
open Go.RowKit

theorem FnExactRoundOf_walk (v0 : Value) (D0 : ShD) (w : World) (h0 : ShArg w v0 D0) :
    Calls Try.prog 5 #[v0] w fun e w' => e = .returned (.bool true) ∧ Below w.heap.size w w' :=
  FnExactRoundOf_law v0 D0 w h0 (rndR D0) (rndR_tot D0) (rndH D0) (rndB D0) (fun v w r => sroundOf_any v D0 w r _ _ _ rfl rfl rfl) (fun v w r => iroundOf_any v D0 w r _ _ _ rfl rfl rfl)
end Go.Proofs.Ytepnhbicmlfnhag
