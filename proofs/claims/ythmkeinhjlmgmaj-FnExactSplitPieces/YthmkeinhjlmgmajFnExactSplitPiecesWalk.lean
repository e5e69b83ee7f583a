/-
  The law FnExactSplitPieces answers true at any text and number.
-/
import Derived.Test.YthmkeinhjlmgmajSplitPiecesLaw
import Derived.Test.YthmkeinhjlmgmajSSplit
import Derived.Test.YthmkeinhjlmgmajISplitFn
namespace Go.Proofs.Ythmkeinhjlmgmaj
open Go.RowKit

theorem FnExactSplitPieces_walk (s0 : ByteArray) (n1 : Int) (w : World) (_h0 : s0.size ≤ maxLen) :
    Calls Try.prog 8 #[.string s0, .int .i64 n1] w fun e w' => e = .returned (.bool true) ∧ Below w.heap.size w w' :=
  FnExactSplitPieces_law s0 n1 w (splL s0 n1) (splL_len s0 n1) (splB s0 n1) (fun w => ssplit_any s0 n1 w _ _ rfl rfl) (fun w => isplit_any s0 n1 w _ _ rfl rfl)
end Go.Proofs.Ythmkeinhjlmgmaj
