/-
  impl.GoodGuess: whether a guess is good. Nothing old is written.
-/
import Derived.Test.YteeaebelknpdjbbGuForm
namespace Go.Proofs.Yteeaebelknpdjbb
open Go.RowKit

set_option maxHeartbeats 4000000 in
theorem igoodG_eq (x : GuEl) (t : Bool) (h : goodG x = t) (w : World) : Calls Try.prog 14 #[guV x] w fun e w' => e = .returned (.bool t) ∧ Below w.heap.size w w' := by
  obtain ⟨m, s, n, b⟩ := x
  have HT : Hid (((decide (0 ≤ m ∧ m ≤ 8000) && decide (0 ≤ s ∧ s ≤ 4000)) && (decide (0 ≤ n ∧ n ≤ 1000) && decide (0 ≤ b ∧ b ≤ 6))) = t) := h
  clear h
  show Calls Try.prog 14 #[.agg #[.int .i64 m, .int .i64 s, .int .i64 n, .int .i64 b]] w fun e w' => e = .returned (.bool t) ∧ Below w.heap.size w w'
  by_cases h0 : 0 ≤ m
  case neg =>
    have d0 : decide (0 ≤ m) = false := by simpa using h0
    have HV : Hid (t = false) := by
      show _ = _
      rw [← HT.out, decide_eq_false (p := 0 ≤ m ∧ m ≤ 8000) (by omega)]
      simp
    clear HT
    go_enter Try.func14, Try.ntmps14
    go_wp2
    go_ret
    exact ⟨by rw [HV.out]; rfl, by go_grown⟩
  have d0 : decide (0 ≤ m) = true := by simpa using h0
  by_cases h1 : m ≤ 8000
  case neg =>
    have d1 : decide (m ≤ 8000) = false := by simpa using h1
    have HV : Hid (t = false) := by
      show _ = _
      rw [← HT.out, decide_eq_false (p := 0 ≤ m ∧ m ≤ 8000) (by omega)]
      simp
    clear HT
    go_enter Try.func14, Try.ntmps14
    go_wp2
    go_ret
    exact ⟨by rw [HV.out]; rfl, by go_grown⟩
  have d1 : decide (m ≤ 8000) = true := by simpa using h1
  by_cases h2 : 0 ≤ s
  case neg =>
    have d2 : decide (0 ≤ s) = false := by simpa using h2
    have HV : Hid (t = false) := by
      show _ = _
      rw [← HT.out, decide_eq_false (p := 0 ≤ s ∧ s ≤ 4000) (by omega)]
      simp
    clear HT
    go_enter Try.func14, Try.ntmps14
    go_wp2
    go_ret
    exact ⟨by rw [HV.out]; rfl, by go_grown⟩
  have d2 : decide (0 ≤ s) = true := by simpa using h2
  by_cases h3 : s ≤ 4000
  case neg =>
    have d3 : decide (s ≤ 4000) = false := by simpa using h3
    have HV : Hid (t = false) := by
      show _ = _
      rw [← HT.out, decide_eq_false (p := 0 ≤ s ∧ s ≤ 4000) (by omega)]
      simp
    clear HT
    go_enter Try.func14, Try.ntmps14
    go_wp2
    go_ret
    exact ⟨by rw [HV.out]; rfl, by go_grown⟩
  have d3 : decide (s ≤ 4000) = true := by simpa using h3
  by_cases h4 : 0 ≤ n
  case neg =>
    have d4 : decide (0 ≤ n) = false := by simpa using h4
    have HV : Hid (t = false) := by
      show _ = _
      rw [← HT.out, decide_eq_false (p := 0 ≤ n ∧ n ≤ 1000) (by omega)]
      simp
    clear HT
    go_enter Try.func14, Try.ntmps14
    go_wp2
    go_ret
    exact ⟨by rw [HV.out]; rfl, by go_grown⟩
  have d4 : decide (0 ≤ n) = true := by simpa using h4
  by_cases h5 : n ≤ 1000
  case neg =>
    have d5 : decide (n ≤ 1000) = false := by simpa using h5
    have HV : Hid (t = false) := by
      show _ = _
      rw [← HT.out, decide_eq_false (p := 0 ≤ n ∧ n ≤ 1000) (by omega)]
      simp
    clear HT
    go_enter Try.func14, Try.ntmps14
    go_wp2
    go_ret
    exact ⟨by rw [HV.out]; rfl, by go_grown⟩
  have d5 : decide (n ≤ 1000) = true := by simpa using h5
  by_cases h6 : 0 ≤ b
  case neg =>
    have d6 : decide (0 ≤ b) = false := by simpa using h6
    have HV : Hid (t = false) := by
      show _ = _
      rw [← HT.out, decide_eq_false (p := 0 ≤ b ∧ b ≤ 6) (by omega)]
      simp
    clear HT
    go_enter Try.func14, Try.ntmps14
    go_wp2
    go_ret
    exact ⟨by rw [HV.out]; rfl, by go_grown⟩
  have d6 : decide (0 ≤ b) = true := by simpa using h6
  by_cases h7 : b ≤ 6
  case neg =>
    have d7 : decide (b ≤ 6) = false := by simpa using h7
    have HV : Hid (t = false) := by
      show _ = _
      rw [← HT.out, decide_eq_false (p := 0 ≤ b ∧ b ≤ 6) (by omega)]
      simp
    clear HT
    go_enter Try.func14, Try.ntmps14
    go_wp2
    go_ret
    exact ⟨by rw [HV.out]; rfl, by go_grown⟩
  have d7 : decide (b ≤ 6) = true := by simpa using h7
  have HV : Hid (t = true) := by
    show _ = _
    rw [← HT.out, decide_eq_true (p := 0 ≤ m ∧ m ≤ 8000) ⟨h0, h1⟩, decide_eq_true (p := 0 ≤ s ∧ s ≤ 4000) ⟨h2, h3⟩, decide_eq_true (p := 0 ≤ n ∧ n ≤ 1000) ⟨h4, h5⟩, decide_eq_true (p := 0 ≤ b ∧ b ≤ 6) ⟨h6, h7⟩]
    rfl
  clear HT
  go_enter Try.func14, Try.ntmps14
  go_wp2
  go_ret
  exact ⟨by rw [HV.out]; rfl, by go_grown⟩
end Go.Proofs.Yteeaebelknpdjbb
