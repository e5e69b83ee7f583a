/-
  The law FnExactFairnessOf answers true at any shares.
-/
import Derived.Test.YtepnhbicmlfnhagFairnessOfLaw
import Derived.Test.YtepnhbicmlfnhagSFair
import Derived.Test.YtepnhbicmlfnhagIFair
namespace Go.Proofs.Ytepnhbicmlfnhag
open Go.RowKit

theorem FnExactFairnessOf_walk (v0 : Value) (D0 : ShD) (w : World) (h0 : ShArg w v0 D0) :
    Calls Try.prog 8 #[v0] w fun e w' => e = .returned (.bool true) ∧ Below w.heap.size w w' :=
  FnExactFairnessOf_law v0 D0 w h0 (fpS D0) (fqS D0) (goodS D0) (fun v w r => sfair_any v D0 w r _ _ _ rfl rfl rfl) (fun v w r => ifair_any v D0 w r _ _ _ rfl rfl rfl)
end Go.Proofs.Ytepnhbicmlfnhag
