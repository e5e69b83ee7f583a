/-
  The law FnExactParityOf answers true at any texts.
-/
import Derived.Test.YtijojdempijhbaiParityOfLaw
import Derived.Test.YtijojdempijhbaiSParity
import Derived.Test.YtijojdempijhbaiIParity
namespace Go.Proofs.Ytijojdempijhbai
open Go.RowKit

theorem FnExactParityOf_walk (a0 : Option Addr) (len0 cap0 : Nat) (xs0 : List XEl) (w : World) (hrow0 : XArg w a0 len0 cap0 xs0) :
    Calls Try.prog 6 #[.slice a0 len0 cap0] w fun e w' => e = .returned (.bool true) ∧ Below w.heap.size w w' :=
  FnExactParityOf_law a0 len0 cap0 xs0 w hrow0 (parT xs0) (goodP xs0) (fun v w hr => sparity_any v xs0 _ _ rfl rfl w hr) (fun v w hr => iparity_any v xs0 _ _ rfl rfl w hr)
end Go.Proofs.Ytijojdempijhbai
