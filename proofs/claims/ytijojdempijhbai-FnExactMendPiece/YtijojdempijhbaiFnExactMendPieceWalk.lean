/-
  The law FnExactMendPiece answers true at any texts and number.
-/
import Derived.Test.YtijojdempijhbaiMendPieceLaw
import Derived.Test.YtijojdempijhbaiSMend
import Derived.Test.YtijojdempijhbaiIMend
namespace Go.Proofs.Ytijojdempijhbai
open Go.RowKit

theorem FnExactMendPiece_walk (a0 : Option Addr) (len0 cap0 : Nat) (xs0 : List XEl) (n1 : Int) (w : World) (hrow0 : XArg w a0 len0 cap0 xs0) :
    Calls Try.prog 8 #[.slice a0 len0 cap0, .int .i64 n1] w fun e w' => e = .returned (.bool true) ∧ Below w.heap.size w w' :=
  FnExactMendPiece_law a0 len0 cap0 xs0 n1 w hrow0 (mendT xs0 n1) (mendB xs0 n1) (fun v w hr => smend_any v xs0 n1 _ _ rfl rfl w hr) (fun v w hr => imend_any v xs0 n1 _ _ rfl rfl w hr)
end Go.Proofs.Ytijojdempijhbai
