/-
  The law FnExactIsFairer answers true at any two shares.
-/
import Derived.Test.YtepnhbicmlfnhahIsFairerLaw
import Derived.Test.YtepnhbicmlfnhahSFairer
import Derived.Test.YtepnhbicmlfnhahIFairer
namespace Go.Proofs.Ytepnhbicmlfnhah
open Go.RowKit

theorem FnExactIsFairer_walk (v0 : Value) (D0 : ShD) (v1 : Value) (D1 : ShD) (w : World) (h0 : ShArg w v0 D0) (h1 : ShArg w v1 D1) :
    Calls Try.prog 3 #[v0, v1] w fun e w' => e = .returned (.bool true) ∧ Below w.heap.size w w' :=
  FnExactIsFairer_law v0 v1 D0 D1 w h0 h1 (frR D0 D1) (bothS D0 D1) (fun v u w a b => sfairer_any v u D0 D1 w a b _ _ rfl rfl) (fun v u w a b => ifairer_any v u D0 D1 w a b _ _ rfl rfl)
end Go.Proofs.Ytepnhbicmlfnhah
