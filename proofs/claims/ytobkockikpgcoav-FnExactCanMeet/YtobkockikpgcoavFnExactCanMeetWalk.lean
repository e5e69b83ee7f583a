/-
  The law FnExactCanMeet answers true at every list of jobs.
-/
import Derived.Test.YtobkockikpgcoavCanMeetLaw
import Derived.Test.YtobkockikpgcoavSCanMeet
import Derived.Test.YtobkockikpgcoavIMeetJ
namespace Go.Proofs.Ytobkockikpgcoav
open Go.RowKit

theorem FnExactCanMeet_walk (a0 : Option Addr) (len0 cap0 : Nat) (xs0 : List JbEl) (w : World) (h0 : JbArg w a0 len0 cap0 xs0) :
    Calls Try.prog 5 #[.slice a0 len0 cap0] w fun e w' => e = .returned (.bool true) ∧ Below w.heap.size w w' := by
  cases hg : goodJ xs0 with
  | true => exact FnExactCanMeet_law a0 len0 cap0 xs0 w h0 _ true (fun v0 w r0 => scanMeet_yes v0 xs0 _ rfl w r0 hg) (fun v0 w r0 => icanMeet_yes v0 xs0 _ rfl w r0 hg)
  | false => exact FnExactCanMeet_law a0 len0 cap0 xs0 w h0 false false (fun v0 w r0 => scanMeet_no v0 xs0 w r0 hg) (fun v0 w r0 => icanMeet_no v0 xs0 w r0 hg)
end Go.Proofs.Ytobkockikpgcoav
