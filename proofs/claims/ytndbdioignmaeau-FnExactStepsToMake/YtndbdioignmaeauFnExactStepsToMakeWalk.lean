/-
  The law FnExactStepsToMake answers true at every list of work.
-/
import Derived.Test.YtndbdioignmaeauStepsToMakeLaw
import Derived.Test.YtndbdioignmaeauISteps
import Derived.Test.YtndbdioignmaeauSSteps
namespace Go.Proofs.Ytndbdioignmaeau
open Go.RowKit

theorem FnExactStepsToMake_walk (a0 : Option Addr) (len0 cap0 : Nat) (xs0 : List WkEl) (w : World) (h0 : WkArg w a0 len0 cap0 xs0) :
    Calls Try.prog 7 #[.slice a0 len0 cap0] w fun e w' => e = .returned (.bool true) ∧ Below w.heap.size w w' :=
  FnExactStepsToMake_law a0 len0 cap0 xs0 w h0 (makeN xs0) (goodW xs0) (fun v0 w r0 => sStepsToMake_any v0 xs0 w r0) (fun v0 w r0 => iStepsToMake_any v0 xs0 w r0)
end Go.Proofs.Ytndbdioignmaeau
