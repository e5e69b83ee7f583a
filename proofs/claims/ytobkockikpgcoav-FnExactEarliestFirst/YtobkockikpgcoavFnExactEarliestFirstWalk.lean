/-
  The law FnExactEarliestFirst answers true at every list of jobs.
-/
import Derived.Test.YtobkockikpgcoavEarliestFirstLaw
import Derived.Test.YtobkockikpgcoavEarlFns
namespace Go.Proofs.Ytobkockikpgcoav
open Go.RowKit

theorem FnExactEarliestFirst_walk (a0 : Option Addr) (len0 cap0 : Nat) (xs0 : List JbEl) (w : World) (h0 : JbArg w a0 len0 cap0 xs0) :
    Calls Try.prog 3 #[.slice a0 len0 cap0] w fun e w' => e = .returned (.bool true) ∧ Below w.heap.size w w' := by
  cases hg : goodJ xs0 with
  | true => exact FnExactEarliestFirst_law a0 len0 cap0 xs0 w h0 _ (by rw [length_earl]; omega) true (fun v0 w r0 => searliest_yes v0 xs0 w r0 hg) (fun v0 w r0 => iearliest_yes v0 xs0 w r0 hg)
  | false => exact FnExactEarliestFirst_law a0 len0 cap0 xs0 w h0 [] (by simp) false (fun v0 w r0 => searliest_no v0 xs0 w r0 hg) (fun v0 w r0 => iearliest_no v0 xs0 w r0 hg)
end Go.Proofs.Ytobkockikpgcoav
