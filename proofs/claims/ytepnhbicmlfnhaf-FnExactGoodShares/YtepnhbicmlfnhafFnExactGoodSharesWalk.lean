/-
  The law FnExactGoodShares answers true at any shares.
-/
import Derived.Test.YtepnhbicmlfnhafGoodSharesLaw
import Derived.Test.YtepnhbicmlfnhafSGoodSh
import Derived.Test.YtepnhbicmlfnhafIGoodSh
namespace Go.Proofs.Ytepnhbicmlfnhaf
open Go.RowKit

theorem FnExactGoodShares_walk (v0 : Value) (D0 : ShD) (w : World) (h0 : ShArg w v0 D0) :
    Calls Try.prog 3 #[v0] w fun e w' => e = .returned (.bool true) ∧ Below w.heap.size w w' :=
  FnExactGoodShares_law v0 D0 w h0 (goodS D0) (fun v w r => sgoodS_eq v D0 _ rfl w r) (fun v w r => igoodS_eq v D0 _ rfl w r)
end Go.Proofs.Ytepnhbicmlfnhaf
