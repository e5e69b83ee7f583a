/-
  The law FnExactRoundsOf answers true at any shares.
-/
import Derived.Test.YtepnhbicmlfnhagRoundsOfLaw
import Derived.Test.YtepnhbicmlfnhagSRounds
import Derived.Test.YtepnhbicmlfnhagIRounds
namespace Go.Proofs.Ytepnhbicmlfnhag
open Go.RowKit

theorem FnExactRoundsOf_walk (v0 : Value) (D0 : ShD) (n1 : Int) (w : World) (h0 : ShArg w v0 D0) :
    Calls Try.prog 6 #[v0, .int .i64 n1] w fun e w' => e = .returned (.bool true) ∧ Below w.heap.size w w' :=
  FnExactRoundsOf_law v0 D0 n1 w h0 (rndsD D0 n1) (rndsD_tot D0 n1) (rndsN D0 n1) (rndsOk D0 n1) (fun v w r => srounds_any v D0 n1 w r _ _ _ rfl rfl rfl) (fun v w r => irounds_any v D0 n1 w r _ _ _ rfl rfl rfl)
end Go.Proofs.Ytepnhbicmlfnhag
