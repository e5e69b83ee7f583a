/-
  The law FnExactLongestOf answers true at every list of tasks.
-/
import Derived.Test.YtmcmkobdkkibkaxLongestOfLaw
import Derived.Test.YtmcmkobdkkibkaxSLongFn
import Derived.Test.YtmcmkobdkkibkaxILongFn
namespace Go.Proofs.Ytmcmkobdkkibkax
open Go.RowKit

theorem FnExactLongestOf_walk (a0 : Option Addr) (len0 cap0 : Nat) (xs0 : List AgEl) (n1 : Int) (w : World) (h0 : AgArg w a0 len0 cap0 xs0) :
    Calls Try.prog 7 #[.slice a0 len0 cap0, .int .i64 n1] w fun e w' => e = .returned (.bool true) ∧ Below w.heap.size w w' := by
  cases hg : thereA xs0 n1 with
  | true =>
    obtain ⟨hg1, k, rfl, hk⟩ := thereA_of hg
    exact FnExactLongestOf_law a0 len0 cap0 xs0 _ w h0 (lgN xs0 k) (lgB xs0 k) true (fun v0 w r0 => slongfn_yes v0 xs0 k w r0 hg1 hk) (fun v0 w r0 => ilongfn_yes v0 xs0 k w r0 hg1 hk)
  | false => exact FnExactLongestOf_law a0 len0 cap0 xs0 n1 w h0 0 false false (fun v0 w r0 => slongfn_no v0 xs0 n1 w r0 hg) (fun v0 w r0 => ilongfn_no v0 xs0 n1 w r0 hg)
end Go.Proofs.Ytmcmkobdkkibkax
