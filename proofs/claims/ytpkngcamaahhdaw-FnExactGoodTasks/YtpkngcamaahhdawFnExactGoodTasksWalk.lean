/-
  The law FnExactGoodTasks answers true at every list of tasks.
-/
import Derived.Test.YtpkngcamaahhdawGoodTasksLaw
import Derived.Test.YtpkngcamaahhdawSTask
import Derived.Test.YtpkngcamaahhdawITask
namespace Go.Proofs.Ytpkngcamaahhdaw
open Go.RowKit

theorem FnExactGoodTasks_walk (a0 : Option Addr) (len0 cap0 : Nat) (xs0 : List TkEl) (w : World) (h0 : TkArg w a0 len0 cap0 xs0) :
    Calls Try.prog 4 #[.slice a0 len0 cap0] w fun e w' => e = .returned (.bool true) ∧ Below w.heap.size w w' := 
  FnExactGoodTasks_law a0 len0 cap0 xs0 w h0 (goodT xs0) (fun v0 w r0 => sgoodTasks_eq v0 xs0 _ rfl w r0) (fun v0 w r0 => igoodTasks_eq v0 xs0 _ rfl w r0)
end Go.Proofs.Ytpkngcamaahhdaw
