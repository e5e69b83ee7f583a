/-
  The law FnExactAdmitJob answers true at every list of jobs and every job.
-/
import Derived.Test.YtobkockikpgcoawAdmitJobLaw
import Derived.Test.YtobkockikpgcoawSAdm
import Derived.Test.YtobkockikpgcoawIAdm
namespace Go.Proofs.Ytobkockikpgcoaw
open Go.RowKit

theorem admL_le (xs : List JbEl) (x : JbEl) : (admL xs x).length ≤ 1048576 := by
  unfold admL
  split
  · rename_i h
    unfold admB at h
    rw [Bool.and_eq_true] at h
    have := goodJ_len h.1
    omega
  · simp
theorem FnExactAdmitJob_walk (a0 : Option Addr) (len0 cap0 : Nat) (xs0 : List JbEl) (x1 : JbEl) (w : World) (h0 : JbArg w a0 len0 cap0 xs0) :
    Calls Try.prog 3 #[.slice a0 len0 cap0, .agg #[.int .i64 x1.1, .int .i64 x1.2.1, .int .i64 x1.2.2]] w fun e w' => e = .returned (.bool true) ∧ Below w.heap.size w w' :=
  FnExactAdmitJob_law a0 len0 cap0 xs0 x1 w h0 (admL xs0 x1) (admL_le xs0 x1) (admB xs0 x1) (fun v0 w r0 => sadm_any v0 xs0 x1 w r0) (fun v0 w r0 => iadm_any v0 xs0 x1 w r0)
end Go.Proofs.Ytobkockikpgcoaw
