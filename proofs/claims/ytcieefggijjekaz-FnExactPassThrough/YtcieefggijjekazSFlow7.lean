/-
  spec.l7Flow: whether a flow is as said. Nothing is written.
-/
import Derived.Test.YtcieefggijjekazSAll7
import Derived.Test.YtcieefggijjekazFlowFns
namespace Go.Proofs.Ytcieefggijjekaz
open Go.RowKit

set_option maxHeartbeats 1000000 in
theorem sflow_eq (v : Value) (xs : List Int) (t : Bool) (h : flowB xs = t) (w : World) (hr : KReads w v xs) : Calls Try.prog 29 #[v] w fun e w' => e = .returned (.bool t) ∧ w' = w := by
  have HT : Hid ((decide (xs.length ≤ 40) && xs.all fun k => decide (0 ≤ k ∧ k ≤ 60)) = t) := h
  clear h
  have HR := hid hr
  obtain ⟨a, cap, rfl, _, _⟩ := hr
  by_cases h40 : xs.length ≤ 40
  · have d40 : decide ((xs.length : Int) ≤ 40) = true := by rw [decide_eq_true_eq]; omega
    have HA : Hid ((xs.all fun k => decide (0 ≤ k ∧ k ≤ 60)) = t) := by show _ = _; rw [← HT.out, decide_eq_true h40, Bool.true_and]
    clear h40
    go_enter Try.func29, Try.ntmps29
    go_wp2_with fail
    refine (l1All7_eq _ xs 0 60 t HA.out _ HR.out).mono ?_
    rintro e w' ⟨rfl, hw⟩; obtain rfl := hw.symm
    go_wp2
    go_ret
    exact ⟨rfl, rfl⟩
  · have d40 : decide ((xs.length : Int) ≤ 40) = false := by rw [decide_eq_false_iff_not]; omega
    have HA : Hid (t = false) := by show _ = _; rw [← HT.out, decide_eq_false h40]; rfl
    clear h40
    go_enter Try.func29, Try.ntmps29
    go_wp2
    go_ret
    exact ⟨by rw [HA.out]; rfl, rfl⟩
end Go.Proofs.Ytcieefggijjekaz
