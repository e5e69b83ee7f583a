/-
  spec.l7Rate, spec.l7Flow, spec.l1Least: whether rates and flows are as said; the lesser of two. Nothing is written.
-/
import Derived.Test.YtcieefggijjekazSAll7
import Derived.Test.YtcieefggijjekazFlowFns
namespace Go.Proofs.Ytcieefggijjekaz
open Go.RowKit

theorem least7_any (x y : Int) (w : World) : Calls Try.prog 31 #[.int .i64 x, .int .i64 y] w fun e w' => e = .returned (.int .i64 (lst7 x y)) ∧ w' = w := by
  by_cases h : x < y
  · have hr : Hid (lst7 x y = x) := by show _ = _; unfold lst7; rw [if_pos h]
    go_enter Try.func31, Try.ntmps31
    go_wp2
    go_ret
    exact ⟨by rw [hr.out]; rfl, rfl⟩
  · have hr : Hid (lst7 x y = y) := by show _ = _; unfold lst7; rw [if_neg h]
    go_enter Try.func31, Try.ntmps31
    go_wp2
    go_ret
    exact ⟨by rw [hr.out]; rfl, rfl⟩
set_option maxHeartbeats 1000000 in
theorem srate_eq (r d : Int) (t : Bool) (h : rateB r d = t) (w : World) : Calls Try.prog 35 #[.int .i64 r, .int .i64 d] w fun e w' => e = .returned (.bool t) ∧ w' = w := by
  have HT : Hid ((decide (1 ≤ r ∧ r ≤ 20) && decide (1 ≤ d ∧ d ≤ 60)) = t) := h
  clear h
  obtain ⟨b1, h1⟩ : ∃ b, decide (1 ≤ r ∧ r ≤ 20) = b := ⟨_, rfl⟩
  obtain ⟨b2, h2⟩ : ∃ b, decide (1 ≤ d ∧ d ≤ 60) = b := ⟨_, rfl⟩
  have H1 := hid h1
  have H2 := hid h2
  rw [h1, h2] at HT
  clear h1 h2
  cases b1
  · go_enter Try.func35, Try.ntmps35
    go_wp2_with fail
    refine (l1In_eq r 1 20 false H1.out _).mono ?_
    rintro e w' ⟨rfl, hw⟩; obtain rfl := hw.symm
    go_wp2
    go_ret
    exact ⟨by rw [← HT.out]; rfl, rfl⟩
  · go_enter Try.func35, Try.ntmps35
    go_wp2_with fail
    refine (l1In_eq r 1 20 true H1.out _).mono ?_
    rintro e w' ⟨rfl, hw⟩; obtain rfl := hw.symm
    go_wp2_with fail
    refine (l1In_eq d 1 60 b2 H2.out _).mono ?_
    rintro e w' ⟨rfl, hw⟩; obtain rfl := hw.symm
    go_wp2
    go_ret
    exact ⟨by rw [← HT.out]; cases b2 <;> rfl, rfl⟩
set_option maxHeartbeats 1000000 in
theorem sflow_eq (v : Value) (xs : List Int) (t : Bool) (h : flowB xs = t) (w : World) (hr : KReads w v xs) : Calls Try.prog 29 #[v] w fun e w' => e = .returned (.bool t) ∧ w' = w := by
  have HT : Hid ((decide (xs.length ≤ 40) && xs.all fun k => decide (0 ≤ k ∧ k ≤ 60)) = t) := h
  clear h
  have HR := hid hr
  obtain ⟨a, cap, rfl, _, _⟩ := hr
  by_cases h40 : xs.length ≤ 40
  · have d40 : decide ((xs.length : Int) ≤ 40) = true := by rw [decide_eq_true_eq]; omega
    have HA : Hid ((xs.all fun k => decide (0 ≤ k ∧ k ≤ 60)) = t) := by show _ = _; rw [← HT.out, decide_eq_true h40, Bool.true_and]
    clear h40
    go_enter Try.func29, Try.ntmps29
    go_wp2_with fail
    refine (l1All7_eq _ xs 0 60 t HA.out _ HR.out).mono ?_
    rintro e w' ⟨rfl, hw⟩; obtain rfl := hw.symm
    go_wp2
    go_ret
    exact ⟨rfl, rfl⟩
  · have d40 : decide ((xs.length : Int) ≤ 40) = false := by rw [decide_eq_false_iff_not]; omega
    have HA : Hid (t = false) := by show _ = _; rw [← HT.out, decide_eq_false h40]; rfl
    clear h40
    go_enter Try.func29, Try.ntmps29
    go_wp2
    go_ret
    exact ⟨by rw [HA.out]; rfl, rfl⟩
end Go.Proofs.Ytcieefggijjekaz
