/-
  impl.goodCredit: whether a credit goes with what waits. Nothing is written.
-/
import Derived.Test.YtnnmiddhbeiogbaTurnFns
import Derived.Test.YtnnmiddhbeiogbaKIntRows
import Derived.Test.YtnnmiddhbeiogbaTurnIG
namespace Go.Proofs.Ytnnmiddhbeiogba
open Go.RowKit

set_option maxHeartbeats 1000000 in
theorem icredit_eq (c : Int) (v : Value) (xs : List Int) (t : Bool) (h : credB c xs = t) (w : World) (hr : KReads w v xs) :
    Calls Try.prog 37 #[.int .i64 c, v] w fun e w' => e = .returned (.bool t) ∧ w' = w := by
  have HT := hid h
  clear h
  unfold credB at HT
  obtain ⟨a, cap, rfl, _, _⟩ := hr
  by_cases h0 : xs.length = 0
  · obtain rfl := List.length_eq_zero_iff.1 h0
    have HA : Hid (t = decide (c = 0)) := by
      show _ = _
      rw [← HT.out]
      by_cases hc : c = 0
      · subst hc; rfl
      · simp [hc]
    clear HT h0
    by_cases hc : c = 0
    · subst hc
      go_enter Try.func37, Try.ntmps37
      go_wp2
      go_ret
      exact ⟨by rw [HA.out]; rfl, rfl⟩
    · go_enter Try.func37, Try.ntmps37
      go_wp2
      go_ret
      exact ⟨by rw [HA.out]; simp [hc], rfl⟩
  · have hp : 0 < xs.length := by omega
    have HA : Hid (t = decide (0 ≤ c ∧ c ≤ 19)) := by show _ = _; rw [← HT.out, decide_eq_true hp]; rfl
    have hne : ¬ ((xs.length : Int) = 0) := by omega
    clear HT h0 hp
    by_cases h1 : 0 ≤ c
    · have d1 : decide (0 ≤ c) = true := by simpa using h1
      by_cases h2 : c < 20
      · have d2 : decide (c < 20) = true := by simpa using h2
        go_enter Try.func37, Try.ntmps37
        go_wp2
        go_ret
        exact ⟨by rw [HA.out, decide_eq_true (by omega)]; rfl, rfl⟩
      · have d2 : decide (c < 20) = false := by simpa using h2
        go_enter Try.func37, Try.ntmps37
        go_wp2
        go_ret
        exact ⟨by rw [HA.out, decide_eq_false (by omega)]; rfl, rfl⟩
    · have d1 : decide (0 ≤ c) = false := by simpa using h1
      go_enter Try.func37, Try.ntmps37
      go_wp2
      go_ret
      exact ⟨by rw [HA.out, decide_eq_false (by omega)]; rfl, rfl⟩
end Go.Proofs.Ytnnmiddhbeiogba
