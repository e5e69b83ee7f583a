/-
  The law FnExactLoadOf answers true at every list of tasks.
-/
import Derived.Test.YtmcmkobdkkibkayLoadOfLaw
import Derived.Test.YtmcmkobdkkibkaySLoad
import Derived.Test.YtmcmkobdkkibkayILoad
namespace Go.Proofs.Ytmcmkobdkkibkay
open Go.RowKit

theorem FnExactLoadOf_walk (a0 : Option Addr) (len0 cap0 : Nat) (xs0 : List AgEl) (w : World) (h0 : AgArg w a0 len0 cap0 xs0) :
    Calls Try.prog 4 #[.slice a0 len0 cap0] w fun e w' => e = .returned (.bool true) ∧ Below w.heap.size w w' := by
  cases hg : goodA xs0 with
  | true => exact FnExactLoadOf_law a0 len0 cap0 xs0 w h0 _ _ true (fun v0 w r0 => sload_yes v0 xs0 w r0 hg) (fun v0 w r0 => iload_yes v0 xs0 w r0 hg)
  | false => exact FnExactLoadOf_law a0 len0 cap0 xs0 w h0 0 0 false (fun v0 w r0 => sload_no v0 xs0 w r0 hg) (fun v0 w r0 => iload_no v0 xs0 w r0 hg)
end Go.Proofs.Ytmcmkobdkkibkay
