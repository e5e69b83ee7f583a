/-
  The law FnExactWorstDelay answers true at every flow and out.
-/
import Derived.Test.YtcieefggijjekazWorstDelayLaw
import Derived.Test.YtcieefggijjekazSWorst
import Derived.Test.YtcieefggijjekazIWorst
namespace Go.Proofs.Ytcieefggijjekaz
open Go.RowKit

theorem sworst_eq (v u : Value) (xs ys : List Int) (w : World) (hr : KReads w v xs) (hu : KReads w u ys) :
    Calls Try.prog 20 #[v, u] w fun e w' => e = .returned (.tuple #[.int .i64 (delG xs ys), .bool (delF xs ys)]) ∧ Below w.heap.size w w' := by
  cases h : (flowB xs && outB ys && decide (ys.length = xs.length)) with
  | true =>
    have h' := h
    rw [Bool.and_eq_true, Bool.and_eq_true, decide_eq_true_eq] at h'
    exact sworst_yes v u xs ys w hr hu h'.1.1 h'.1.2 h'.2
  | false =>
    have hd : delF xs ys = false := by
      have : delF xs ys = ((flowB xs && outB ys && decide (ys.length = xs.length)) && goneF xs ys) := rfl
      rw [this, h]
      rfl
    rw [delG_no hd, hd]
    exact sworst_no v u xs ys w hr hu h
theorem FnExactWorstDelay_walk (a0 : Option Addr) (len0 cap0 : Nat) (xs0 : List Int) (a1 : Option Addr) (len1 cap1 : Nat) (xs1 : List Int) (w : World) (h0 : KArg w a0 len0 cap0 xs0) (h1 : KArg w a1 len1 cap1 xs1) :
    Calls Try.prog 6 #[.slice a0 len0 cap0, .slice a1 len1 cap1] w fun e w' => e = .returned (.bool true) ∧ Below w.heap.size w w' :=
  FnExactWorstDelay_law a0 len0 cap0 xs0 a1 len1 cap1 xs1 w h0 h1 (delG xs0 xs1) (delF xs0 xs1) (fun v u w r s => sworst_eq v u xs0 xs1 w r s) (fun v u w r s => iworst_eq v u xs0 xs1 w r s)
end Go.Proofs.Ytcieefggijjekaz
