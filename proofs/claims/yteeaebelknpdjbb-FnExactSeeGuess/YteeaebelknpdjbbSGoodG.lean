/-
  spec.GoodGuess: whether a guess is good. Nothing old is written.
-/
import Derived.Test.YteeaebelknpdjbbSIn
import Derived.Test.YteeaebelknpdjbbGuForm
namespace Go.Proofs.Yteeaebelknpdjbb
open Go.RowKit

set_option maxHeartbeats 2000000 in
theorem sgoodG_eq (x : GuEl) (t : Bool) (h : goodG x = t) (w : World) : Calls Try.prog 12 #[guV x] w fun e w' => e = .returned (.bool t) ∧ Below w.heap.size w w' := by
  obtain ⟨m, s, n, b⟩ := x
  have HT : Hid (((decide (0 ≤ m ∧ m ≤ 8000) && decide (0 ≤ s ∧ s ≤ 4000)) && (decide (0 ≤ n ∧ n ≤ 1000) && decide (0 ≤ b ∧ b ≤ 6))) = t) := h
  clear h
  obtain ⟨b1, h1⟩ : ∃ b, decide (0 ≤ m ∧ m ≤ 8000) = b := ⟨_, rfl⟩
  obtain ⟨b2, h2⟩ : ∃ b, decide (0 ≤ s ∧ s ≤ 4000) = b := ⟨_, rfl⟩
  obtain ⟨b3, h3⟩ : ∃ b, decide (0 ≤ n ∧ n ≤ 1000) = b := ⟨_, rfl⟩
  obtain ⟨b4, h4⟩ : ∃ c, decide (0 ≤ b ∧ b ≤ 6) = c := ⟨_, rfl⟩
  have H1 := hid h1; have H2 := hid h2; have H3 := hid h3; have H4 := hid h4
  rw [h1, h2, h3, h4] at HT
  clear h1 h2 h3 h4
  show Calls Try.prog 12 #[.agg #[.int .i64 m, .int .i64 s, .int .i64 n, .int .i64 b]] w _
  go_enter Try.func12, Try.ntmps12
  go_wp2_with fail
  refine (l1In_eq m 0 8000 b1 H1.out _).mono ?_
  rintro e w' ⟨rfl, hw⟩; obtain rfl := hw.symm
  cases b1
  · go_wp2
    go_ret
    exact ⟨by rw [← HT.out]; rfl, by go_grown⟩
  go_wp2_with fail
  refine (l1In_eq s 0 4000 b2 H2.out _).mono ?_
  rintro e w' ⟨rfl, hw⟩; obtain rfl := hw.symm
  cases b2
  · go_wp2
    go_ret
    exact ⟨by rw [← HT.out]; rfl, by go_grown⟩
  go_wp2_with fail
  refine (l1In_eq n 0 1000 b3 H3.out _).mono ?_
  rintro e w' ⟨rfl, hw⟩; obtain rfl := hw.symm
  cases b3
  · go_wp2
    go_ret
    exact ⟨by rw [← HT.out]; rfl, by go_grown⟩
  go_wp2_with fail
  refine (l1In_eq b 0 6 b4 H4.out _).mono ?_
  rintro e w' ⟨rfl, hw⟩; obtain rfl := hw.symm
  go_wp2
  go_ret
  exact ⟨by rw [← HT.out]; cases b4 <;> rfl, by go_grown⟩
end Go.Proofs.Yteeaebelknpdjbb
