/-
  impl.GoodBucket, impl.NewBucket: buckets. Nothing old is written.
-/
import Derived.Test.YtcieefggijjekacBkForm
namespace Go.Proofs.Ytcieefggijjekac
open Go.RowKit

set_option maxHeartbeats 4000000 in
theorem igoodB_eq (x : BkEl) (t : Bool) (h : bktB x = t) (w : World) : Calls Try.prog 21 #[bkV x] w fun e w' => e = .returned (.bool t) ∧ Below w.heap.size w w' := by
  obtain ⟨r, d, q⟩ := x
  have HT : Hid (((decide (1 ≤ r ∧ r ≤ 20) && decide (1 ≤ d ∧ d ≤ 60)) && decide (0 ≤ q ∧ q ≤ d)) = t) := h
  clear h
  show Calls Try.prog 21 #[.agg #[.int .i64 r, .int .i64 d, .int .i64 q]] w fun e w' => e = .returned (.bool t) ∧ Below w.heap.size w w'
  by_cases h1 : 1 ≤ r
  · have d1 : decide (1 ≤ r) = true := by simpa using h1
    by_cases h2 : r ≤ 20
    · have d2 : decide (r ≤ 20) = true := by simpa using h2
      by_cases h3 : 1 ≤ d
      · have d3 : decide (1 ≤ d) = true := by simpa using h3
        by_cases h4 : d ≤ 60
        · have d4 : decide (d ≤ 60) = true := by simpa using h4
          by_cases h5 : 0 ≤ q
          · have d5 : decide (0 ≤ q) = true := by simpa using h5
            obtain ⟨b, hb⟩ : ∃ b, decide (q ≤ d) = b := ⟨_, rfl⟩
            have HV : Hid (t = b) := by
              show _ = _
              rw [← HT.out, decide_eq_true (p := 1 ≤ r ∧ r ≤ 20) ⟨h1, h2⟩, decide_eq_true (p := 1 ≤ d ∧ d ≤ 60) ⟨h3, h4⟩, ← hb]
              simp [h5]
            clear HT
            go_enter Try.func21, Try.ntmps21
            go_wp2
            go_ret
            exact ⟨by rw [HV.out]; rfl, by go_grown⟩
          · have d5 : decide (0 ≤ q) = false := by simpa using h5
            have HV : Hid (t = false) := by show _ = _; rw [← HT.out, decide_eq_false (p := 0 ≤ q ∧ q ≤ d) (by omega)]; simp
            clear HT
            go_enter Try.func21, Try.ntmps21
            go_wp2
            go_ret
            exact ⟨by rw [HV.out]; rfl, by go_grown⟩
        · have d4 : decide (d ≤ 60) = false := by simpa using h4
          have HV : Hid (t = false) := by show _ = _; rw [← HT.out, decide_eq_false (p := 1 ≤ d ∧ d ≤ 60) (by omega)]; simp
          clear HT
          go_enter Try.func21, Try.ntmps21
          go_wp2
          go_ret
          exact ⟨by rw [HV.out]; rfl, by go_grown⟩
      · have d3 : decide (1 ≤ d) = false := by simpa using h3
        have HV : Hid (t = false) := by show _ = _; rw [← HT.out, decide_eq_false (p := 1 ≤ d ∧ d ≤ 60) (by omega)]; simp
        clear HT
        go_enter Try.func21, Try.ntmps21
        go_wp2
        go_ret
        exact ⟨by rw [HV.out]; rfl, by go_grown⟩
    · have d2 : decide (r ≤ 20) = false := by simpa using h2
      have HV : Hid (t = false) := by show _ = _; rw [← HT.out, decide_eq_false (p := 1 ≤ r ∧ r ≤ 20) (by omega)]; simp
      clear HT
      go_enter Try.func21, Try.ntmps21
      go_wp2
      go_ret
      exact ⟨by rw [HV.out]; rfl, by go_grown⟩
  · have d1 : decide (1 ≤ r) = false := by simpa using h1
    have HV : Hid (t = false) := by show _ = _; rw [← HT.out, decide_eq_false (p := 1 ≤ r ∧ r ≤ 20) (by omega)]; simp
    clear HT
    go_enter Try.func21, Try.ntmps21
    go_wp2
    go_ret
    exact ⟨by rw [HV.out]; rfl, by go_grown⟩
theorem bktB_full {r d : Int} {t : Bool} (h : rateB r d = t) : bktB (r, d, d) = t := by
  show (rateB r d && decide (0 ≤ d ∧ d ≤ d)) = t
  rw [h]
  cases t
  · rfl
  · have := rateB_in h
    rw [decide_eq_true (by omega)]
    rfl
end Go.Proofs.Ytcieefggijjekac
