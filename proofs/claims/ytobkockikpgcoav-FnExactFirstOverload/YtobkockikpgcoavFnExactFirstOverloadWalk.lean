/-
  The law FnExactFirstOverload answers true at every list of jobs.
-/
import Derived.Test.YtobkockikpgcoavFirstOverloadLaw
import Derived.Test.YtobkockikpgcoavIOver
import Derived.Test.YtobkockikpgcoavSOver
namespace Go.Proofs.Ytobkockikpgcoav
open Go.RowKit

theorem FnExactFirstOverload_walk (a0 : Option Addr) (len0 cap0 : Nat) (xs0 : List JbEl) (w : World) (h0 : JbArg w a0 len0 cap0 xs0) :
    Calls Try.prog 7 #[.slice a0 len0 cap0] w fun e w' => e = .returned (.bool true) ∧ Below w.heap.size w w' := by
  cases hg : goodJ xs0 with
  | true => exact FnExactFirstOverload_law a0 len0 cap0 xs0 w h0 _ _ _ true (fun v0 w r0 => sover_yes v0 xs0 _ _ _ (told xs0) w r0 hg) (fun v0 w r0 => iover_yes v0 xs0 _ _ _ (told xs0) w r0 hg)
  | false => exact FnExactFirstOverload_law a0 len0 cap0 xs0 w h0 0 0 false false (fun v0 w r0 => sover_no v0 xs0 w r0 hg) (fun v0 w r0 => iover_no v0 xs0 w r0 hg)
end Go.Proofs.Ytobkockikpgcoav
