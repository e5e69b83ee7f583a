/-
  The law FnExactByRate answers true at every list of tasks.
-/
import Derived.Test.YtmcmkobdkkibkaxByRateLaw
import Derived.Test.YtmcmkobdkkibkaxSByRate
import Derived.Test.YtmcmkobdkkibkaxIByRate
namespace Go.Proofs.Ytmcmkobdkkibkax
open Go.RowKit

theorem FnExactByRate_walk (a0 : Option Addr) (len0 cap0 : Nat) (xs0 : List AgEl) (w : World) (h0 : AgArg w a0 len0 cap0 xs0) :
    Calls Try.prog 6 #[.slice a0 len0 cap0] w fun e w' => e = .returned (.bool true) ∧ Below w.heap.size w w' := by
  cases hg : goodA xs0 with
  | true => exact FnExactByRate_law a0 len0 cap0 xs0 w h0 (ofN (byRateL xs0)) (by have := goodA_len hg; rw [ofN, List.length_map, byRateL, byEnd_len]; omega) true (fun v0 w r0 => sbyrate_yes v0 xs0 w r0 hg) (fun v0 w r0 => ibyrate_yes v0 xs0 w r0 hg)
  | false => exact FnExactByRate_law a0 len0 cap0 xs0 w h0 [] (by simp) false (fun v0 w r0 => sbyrate_no v0 xs0 w r0 hg) (fun v0 w r0 => ibyrate_no v0 xs0 w r0 hg)
end Go.Proofs.Ytmcmkobdkkibkax
