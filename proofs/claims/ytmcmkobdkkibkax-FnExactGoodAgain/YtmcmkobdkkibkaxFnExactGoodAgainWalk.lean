/-
  The law FnExactGoodAgain answers true at every list of tasks.
-/
import Derived.Test.YtmcmkobdkkibkaxGoodAgainLaw
import Derived.Test.YtmcmkobdkkibkaxSAgain
import Derived.Test.YtmcmkobdkkibkaxIAgain
namespace Go.Proofs.Ytmcmkobdkkibkax
open Go.RowKit

theorem FnExactGoodAgain_walk (a0 : Option Addr) (len0 cap0 : Nat) (xs0 : List AgEl) (w : World) (h0 : AgArg w a0 len0 cap0 xs0) :
    Calls Try.prog 5 #[.slice a0 len0 cap0] w fun e w' => e = .returned (.bool true) ∧ Below w.heap.size w w' := by
  exact FnExactGoodAgain_law a0 len0 cap0 xs0 w h0 (goodA xs0) (fun v0 w r0 => sgoodAgain_eq v0 xs0 _ rfl w r0) (fun v0 w r0 => igoodAgain_eq v0 xs0 _ rfl w r0)
end Go.Proofs.Ytmcmkobdkkibkax
