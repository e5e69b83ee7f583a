/-
  The law FnExactByEnd answers true at every list of tasks.
-/
import Derived.Test.YtpkngcamaahhdawByEndLaw
import Derived.Test.YtpkngcamaahhdawSFns5
import Derived.Test.YtpkngcamaahhdawIFns5
namespace Go.Proofs.Ytpkngcamaahhdaw
open Go.RowKit

theorem FnExactByEnd_walk (a0 : Option Addr) (len0 cap0 : Nat) (xs0 : List TkEl) (w : World) (h0 : TkArg w a0 len0 cap0 xs0) :
    Calls Try.prog 5 #[.slice a0 len0 cap0] w fun e w' => e = .returned (.bool true) ∧ Below w.heap.size w w' := by
  cases hg : goodT xs0 with
  | true => exact FnExactByEnd_law a0 len0 cap0 xs0 w h0 (ofN (byEndL xs0)) (by have := goodT_len hg; rw [ofN, List.length_map, byEndL, byEnd_len]; omega) true (fun v0 w r0 => sbyendfn_yes v0 xs0 w r0 hg) (fun v0 w r0 => ibyendfn_yes v0 xs0 w r0 hg)
  | false => exact FnExactByEnd_law a0 len0 cap0 xs0 w h0 [] (by simp) false (fun v0 w r0 => sbyendfn_no v0 xs0 w r0 hg) (fun v0 w r0 => ibyendfn_no v0 xs0 w r0 hg)
end Go.Proofs.Ytpkngcamaahhdaw
