/-
  The law FnExactAllInTime answers true at every list of tasks.
-/
import Derived.Test.YtmcmkobdkkibkayAllInTimeLaw
import Derived.Test.YtmcmkobdkkibkaySAll
import Derived.Test.YtmcmkobdkkibkayIAll
namespace Go.Proofs.Ytmcmkobdkkibkay
open Go.RowKit

theorem FnExactAllInTime_walk (a0 : Option Addr) (len0 cap0 : Nat) (xs0 : List AgEl) (w : World) (h0 : AgArg w a0 len0 cap0 xs0) :
    Calls Try.prog 5 #[.slice a0 len0 cap0] w fun e w' => e = .returned (.bool true) ∧ Below w.heap.size w w' := by
  cases hg : goodA xs0 with
  | true => exact FnExactAllInTime_law a0 len0 cap0 xs0 w h0 (allA xs0) true (fun v0 w r0 => sallfn_yes v0 xs0 w r0 hg) (fun v0 w r0 => iall_yes v0 xs0 w r0 hg)
  | false => exact FnExactAllInTime_law a0 len0 cap0 xs0 w h0 false false (fun v0 w r0 => sallfn_no v0 xs0 w r0 hg) (fun v0 w r0 => iall_no v0 xs0 w r0 hg)
end Go.Proofs.Ytmcmkobdkkibkay
