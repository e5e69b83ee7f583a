/-
  The law FnExactPartsOf answers true at any number and text.
-/
import Derived.Test.YtnkpboobfkjibakPartsOfLaw
import Derived.Test.YtnkpboobfkjibakSParts
import Derived.Test.YtnkpboobfkjibakIParts
namespace Go.Proofs.Ytnkpboobfkjibak
open Go.RowKit

theorem FnExactPartsOf_walk (n0 : Int) (s1 : ByteArray) (w : World) (_h1 : s1.size ≤ maxLen) :
    Calls Try.prog 4 #[.int .i64 n0, .string s1] w fun e w' => e = .returned (.bool true) ∧ Below w.heap.size w w' :=
  FnExactPartsOf_law n0 s1 w (prtL n0 s1) (prtL_len n0 s1) (prtB n0 s1) (fun w => sparts_any n0 s1 w _ _ rfl rfl) (fun w => iparts_any n0 s1 w _ _ rfl rfl)
end Go.Proofs.Ytnkpboobfkjibak
