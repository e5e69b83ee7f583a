/-
  The law FnExactBestMany answers true at every list of tasks.
-/
import Derived.Test.YtpkngcamaahhdaxBestManyLaw
import Derived.Test.YtpkngcamaahhdaxSBest
import Derived.Test.YtpkngcamaahhdaxIBestFn
namespace Go.Proofs.Ytpkngcamaahhdax
open Go.RowKit

theorem FnExactBestMany_walk (a0 : Option Addr) (len0 cap0 : Nat) (xs0 : List TkEl) (w : World) (h0 : TkArg w a0 len0 cap0 xs0) :
    Calls Try.prog 3 #[.slice a0 len0 cap0] w fun e w' => e = .returned (.bool true) ∧ Below w.heap.size w w' := by
  cases hg : goodT xs0 with
  | true => exact FnExactBestMany_law a0 len0 cap0 xs0 w h0 (bestL xs0 : Nat) true (fun v0 w r0 => sbest_yes v0 xs0 w r0 hg) (fun v0 w r0 => ibestfn_yes v0 xs0 w r0 hg)
  | false => exact FnExactBestMany_law a0 len0 cap0 xs0 w h0 0 false (fun v0 w r0 => sbest_no v0 xs0 w r0 hg) (fun v0 w r0 => ibestfn_no v0 xs0 w r0 hg)
end Go.Proofs.Ytpkngcamaahhdax
