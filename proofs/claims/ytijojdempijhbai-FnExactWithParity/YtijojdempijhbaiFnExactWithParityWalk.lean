/-
  The law FnExactWithParity answers true at any texts.
-/
import Derived.Test.YtijojdempijhbaiWithParityLaw
import Derived.Test.YtijojdempijhbaiSWithPar
import Derived.Test.YtijojdempijhbaiIWithPar
namespace Go.Proofs.Ytijojdempijhbai
open Go.RowKit

theorem FnExactWithParity_walk (a0 : Option Addr) (len0 cap0 : Nat) (xs0 : List XEl) (w : World) (hrow0 : XArg w a0 len0 cap0 xs0) :
    Calls Try.prog 7 #[.slice a0 len0 cap0] w fun e w' => e = .returned (.bool true) ∧ Below w.heap.size w w' :=
  FnExactWithParity_law a0 len0 cap0 xs0 w hrow0 (wpL xs0) (wpL_len xs0) (wpB xs0) (fun v w hr => swithpar_any v xs0 _ _ rfl rfl w hr) (fun v w hr => iwithpar_any v xs0 _ _ rfl rfl w hr)
end Go.Proofs.Ytijojdempijhbai
