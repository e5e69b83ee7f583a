/-
  The law FnExactPassThrough answers true at every flow.
-/
import Derived.Test.YtcieefggijjekazPassThroughLaw
import Derived.Test.YtcieefggijjekazSPass
import Derived.Test.YtcieefggijjekazIPassFn
namespace Go.Proofs.Ytcieefggijjekaz
open Go.RowKit

theorem FnExactPassThrough_walk (a0 : Option Addr) (len0 cap0 : Nat) (xs0 : List Int) (n1 : Int) (w : World) (h0 : KArg w a0 len0 cap0 xs0) :
    Calls Try.prog 7 #[.slice a0 len0 cap0, .int .i64 n1] w fun e w' => e = .returned (.bool true) ∧ Below w.heap.size w w' := by
  cases h : passF xs0 n1 with
  | true =>
    have h' := h
    unfold passF at h'
    rw [Bool.and_eq_true, decide_eq_true_eq] at h'
    have hl := flowB_len h'.1
    exact FnExactPassThrough_law a0 len0 cap0 xs0 n1 w h0 _ (by rw [goL_len]; omega) _ (by rw [goL_len]; omega) true (fun v w r => spass_yes v xs0 n1 w r h'.1 h'.2.1 h'.2.2) (fun v w r => ipassfn_yes v xs0 n1 w r h'.1 h'.2.1 h'.2.2)
  | false => exact FnExactPassThrough_law a0 len0 cap0 xs0 n1 w h0 [] (by simp) [] (by simp) false (fun v w r => spass_no v xs0 n1 w r h) (fun v w r => ipassfn_no v xs0 n1 w r h)
end Go.Proofs.Ytcieefggijjekaz
