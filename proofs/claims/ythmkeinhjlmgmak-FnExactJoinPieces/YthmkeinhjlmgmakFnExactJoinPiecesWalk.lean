/-
  The law FnExactJoinPieces answers true at any texts and number.
-/
import Derived.Test.YthmkeinhjlmgmakJoinPiecesLaw
import Derived.Test.YthmkeinhjlmgmakSJoinP
import Derived.Test.YthmkeinhjlmgmakIJoinP
namespace Go.Proofs.Ythmkeinhjlmgmak
open Go.RowKit

theorem FnExactJoinPieces_walk (a0 : Option Addr) (len0 cap0 : Nat) (xs0 : List XEl) (n1 : Int) (w : World) (hrow0 : XArg w a0 len0 cap0 xs0) :
    Calls Try.prog 3 #[.slice a0 len0 cap0, .int .i64 n1] w fun e w' => e = .returned (.bool true) ∧ Below w.heap.size w w' :=
  FnExactJoinPieces_law a0 len0 cap0 xs0 n1 w hrow0 (joinT xs0 n1) (joinB xs0 n1) (fun v w hr => sjoinp_any v xs0 n1 _ _ rfl rfl w hr) (fun v w hr => ijoinp_any v xs0 n1 _ _ rfl rfl w hr)
end Go.Proofs.Ythmkeinhjlmgmak
