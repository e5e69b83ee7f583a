/-
  The law FnExactGoodJobs answers true at every list of jobs.
-/
import Derived.Test.YtobkockikpgcoauGoodJobsLaw
import Derived.Test.YtobkockikpgcoauIJob
import Derived.Test.YtobkockikpgcoauSJob
namespace Go.Proofs.Ytobkockikpgcoau
open Go.RowKit

theorem FnExactGoodJobs_walk (a0 : Option Addr) (len0 cap0 : Nat) (xs0 : List JbEl) (w : World) (h0 : JbArg w a0 len0 cap0 xs0) :
    Calls Try.prog 8 #[.slice a0 len0 cap0] w fun e w' => e = .returned (.bool true) ∧ Below w.heap.size w w' :=
  FnExactGoodJobs_law a0 len0 cap0 xs0 w h0 (goodJ xs0) (fun v0 w r0 => sgoodJobs_eq v0 xs0 _ rfl w r0) (fun v0 w r0 => igoodJobs_eq v0 xs0 _ rfl w r0)
end Go.Proofs.Ytobkockikpgcoau
