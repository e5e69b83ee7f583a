/-
  The law FnExactGoodBlock answers true at any block.
-/
import Derived.Test.YtnkpboobfkjibakGoodBlockLaw
import Derived.Test.YtnkpboobfkjibakSGoodBl
import Derived.Test.YtnkpboobfkjibakIGoodBl
namespace Go.Proofs.Ytnkpboobfkjibak
open Go.RowKit

theorem FnExactGoodBlock_walk (v0 : Value) (D0 : BlD) (w : World) (h0 : BlArg w v0 D0) :
    Calls Try.prog 6 #[v0] w fun e w' => e = .returned (.bool true) ∧ Below w.heap.size w w' :=
  FnExactGoodBlock_law v0 D0 w h0 (goodBl D0) (fun v w r => sgoodBl_eq v D0 _ rfl w r) (fun v w r => igoodBl_eq v D0 _ rfl w r)
end Go.Proofs.Ytnkpboobfkjibak
