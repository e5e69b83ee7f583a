/-
  The law FnExactHalveAll answers true at any shares.
-/
import Derived.Test.YtepnhbicmlfnhagHalveAllLaw
import Derived.Test.YtepnhbicmlfnhagSHalveFn
import Derived.Test.YtepnhbicmlfnhagIHalveFn
namespace Go.Proofs.Ytepnhbicmlfnhag
open Go.RowKit

theorem FnExactHalveAll_walk (v0 : Value) (D0 : ShD) (w : World) (h0 : ShArg w v0 D0) :
    Calls Try.prog 4 #[v0] w fun e w' => e = .returned (.bool true) ∧ Below w.heap.size w w' :=
  FnExactHalveAll_law v0 D0 w h0 (halveR D0) (halveR_tot D0) (halveB D0) (fun v w r => shalveAll_any v D0 w r _ _ rfl rfl) (fun v w r => ihalveAll_any v D0 w r _ _ rfl rfl)
end Go.Proofs.Ytepnhbicmlfnhag
