/-
  The law FnExactFirstDone answers true at every list of tasks.
-/
import Derived.Test.YtmcmkobdkkibkayFirstDoneLaw
import Derived.Test.YtmcmkobdkkibkaySFirst
import Derived.Test.YtmcmkobdkkibkayIFirst
namespace Go.Proofs.Ytmcmkobdkkibkay
open Go.RowKit

theorem FnExactFirstDone_walk (a0 : Option Addr) (len0 cap0 : Nat) (xs0 : List AgEl) (n1 : Int) (w : World) (h0 : AgArg w a0 len0 cap0 xs0) :
    Calls Try.prog 3 #[.slice a0 len0 cap0, .int .i64 n1] w fun e w' => e = .returned (.bool true) ∧ Below w.heap.size w w' := by
  cases hg : thereA xs0 n1 with
  | true =>
    obtain ⟨hg1, k, rfl, hk⟩ := thereA_of hg
    exact FnExactFirstDone_law a0 len0 cap0 xs0 _ w h0 (lgN xs0 k) (lgB xs0 k) true (fun v0 w r0 => sfirst_yes v0 xs0 k w r0 hg1 hk) (fun v0 w r0 => ifirst_yes v0 xs0 k w r0 hg1 hk)
  | false => exact FnExactFirstDone_law a0 len0 cap0 xs0 n1 w h0 0 false false (fun v0 w r0 => sfirst_no v0 xs0 n1 w r0 hg) (fun v0 w r0 => ifirst_no v0 xs0 n1 w r0 hg)
end Go.Proofs.Ytmcmkobdkkibkay
