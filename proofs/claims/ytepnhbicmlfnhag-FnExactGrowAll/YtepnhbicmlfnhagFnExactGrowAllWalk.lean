/-
  The law FnExactGrowAll answers true at any shares.
-/
import Derived.Test.YtepnhbicmlfnhagGrowAllLaw
import Derived.Test.YtepnhbicmlfnhagSGrowFn
import Derived.Test.YtepnhbicmlfnhagIGrowFn
namespace Go.Proofs.Ytepnhbicmlfnhag
open Go.RowKit

theorem FnExactGrowAll_walk (v0 : Value) (D0 : ShD) (w : World) (h0 : ShArg w v0 D0) :
    Calls Try.prog 3 #[v0] w fun e w' => e = .returned (.bool true) ∧ Below w.heap.size w w' :=
  FnExactGrowAll_law v0 D0 w h0 (growR D0) (growR_tot D0) (growB D0) (fun v w r => sgrowAll_any v D0 w r _ _ rfl rfl) (fun v w r => igrowAll_any v D0 w r _ _ rfl rfl)
end Go.Proofs.Ytepnhbicmlfnhag
