/-
  The law FnExactLateIn answers true at every list of jobs and all slots.
-/
import Derived.Test.YtobkockikpgcoavLateInLaw
import Derived.Test.YtobkockikpgcoavLateFns
namespace Go.Proofs.Ytobkockikpgcoav
open Go.RowKit

theorem FnExactLateIn_walk (a0 : Option Addr) (len0 cap0 : Nat) (xs0 : List JbEl) (a1 : Option Addr) (len1 cap1 : Nat) (xs1 : List Int) (w : World) (h0 : JbArg w a0 len0 cap0 xs0) (h1 : KArg w a1 len1 cap1 xs1) :
    Calls Try.prog 4 #[.slice a0 len0 cap0, .slice a1 len1 cap1] w fun e w' => e = .returned (.bool true) ∧ Below w.heap.size w w' := by
  cases hg : goodJ xs0 with
  | false => exact FnExactLateIn_law a0 len0 cap0 xs0 a1 len1 cap1 xs1 w h0 h1 [] (by simp) false (fun v0 v1 w r0 r1 => slatein_bad v0 v1 xs0 xs1 w r0 r1 hg) (fun v0 v1 w r0 r1 => ilatein_bad v0 v1 xs0 xs1 w r0 r1 hg)
  | true =>
    cases hn : (goodS xs0.length xs1 && schedB xs0 xs1) with
    | false => exact FnExactLateIn_law a0 len0 cap0 xs0 a1 len1 cap1 xs1 w h0 h1 [] (by simp) false (fun v0 v1 w r0 r1 => slatein_no v0 v1 xs0 xs1 w r0 r1 hg hn) (fun v0 v1 w r0 r1 => ilatein_no v0 v1 xs0 xs1 w r0 r1 hg hn)
    | true =>
      have hll : (lateL xs0 xs1).length ≤ 1048576 := by
        have h1 := length_lateU xs0 xs1 xs0.length
        have h2 := goodJ_len hg
        show (lateU xs0 xs1 xs0.length).length ≤ _
        omega
      have hn' := hn
      rw [Bool.and_eq_true] at hn'
      exact FnExactLateIn_law a0 len0 cap0 xs0 a1 len1 cap1 xs1 w h0 h1 (lateL xs0 xs1) hll true (fun v0 v1 w r0 r1 => slatein_yes v0 v1 xs0 xs1 w r0 r1 hg hn) (fun v0 v1 w r0 r1 => ilatein_yes v0 v1 xs0 xs1 w r0 r1 hg hn'.1 hn'.2)
end Go.Proofs.Ytobkockikpgcoav
