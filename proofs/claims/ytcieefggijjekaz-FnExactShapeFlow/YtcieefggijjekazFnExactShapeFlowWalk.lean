/-
  The law FnExactShapeFlow answers true at every rate, depth and flow.
-/
import Derived.Test.YtcieefggijjekazShapeFlowLaw
import Derived.Test.YtcieefggijjekazSShape
import Derived.Test.YtcieefggijjekazIShapeFn
namespace Go.Proofs.Ytcieefggijjekaz
open Go.RowKit

theorem FnExactShapeFlow_walk (n0 : Int) (n1 : Int) (a2 : Option Addr) (len2 cap2 : Nat) (xs2 : List Int) (w : World) (h2 : KArg w a2 len2 cap2 xs2) :
    Calls Try.prog 4 #[.int .i64 n0, .int .i64 n1, .slice a2 len2 cap2] w fun e w' => e = .returned (.bool true) ∧ Below w.heap.size w w' := by
  cases h : (rateB n0 n1 && flowB xs2) with
  | true =>
    have h' := h
    rw [Bool.and_eq_true] at h'
    have hl := flowB_len h'.2
    exact FnExactShapeFlow_law n0 n1 a2 len2 cap2 xs2 w h2 _ (by rw [goL_len]; omega) _ (by rw [goL_len]; omega) true (fun v w r => sshape_yes n0 n1 v xs2 w r h'.1 h'.2) (fun v w r => ishapefn_yes n0 n1 v xs2 w r h'.1 h'.2)
  | false => exact FnExactShapeFlow_law n0 n1 a2 len2 cap2 xs2 w h2 [] (by simp) [] (by simp) false (fun v w r => sshape_no n0 n1 v xs2 w r h) (fun v w r => ishapefn_no n0 n1 v xs2 w r h)
end Go.Proofs.Ytcieefggijjekaz
