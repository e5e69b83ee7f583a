/-
  spec.l7Rate: whether a rate and a depth are as said. Nothing is written.
  spec.l1Least: the lesser of two. Nothing is written.
-/
import Derived.Test.YtcieefggijjekacSIn
import Derived.Test.YtcieefggijjekacFlowFns
namespace Go.Proofs.Ytcieefggijjekac
open Go.RowKit

set_option maxHeartbeats 1000000 in
theorem srate_eq (r d : Int) (t : Bool) (h : rateB r d = t) (w : World) : Calls Try.prog 38 #[.int .i64 r, .int .i64 d] w fun e w' => e = .returned (.bool t) ∧ w' = w := by
  have HT : Hid ((decide (1 ≤ r ∧ r ≤ 20) && decide (1 ≤ d ∧ d ≤ 60)) = t) := h
  clear h
  obtain ⟨b1, h1⟩ : ∃ b, decide (1 ≤ r ∧ r ≤ 20) = b := ⟨_, rfl⟩
  obtain ⟨b2, h2⟩ : ∃ b, decide (1 ≤ d ∧ d ≤ 60) = b := ⟨_, rfl⟩
  have H1 := hid h1
  have H2 := hid h2
  rw [h1, h2] at HT
  clear h1 h2
  cases b1
  · go_enter Try.func38, Try.ntmps38
    go_wp2_with fail
    refine (l1In_eq r 1 20 false H1.out _).mono ?_
    rintro e w' ⟨rfl, hw⟩; obtain rfl := hw.symm
    go_wp2
    go_ret
    exact ⟨by rw [← HT.out]; rfl, rfl⟩
  · go_enter Try.func38, Try.ntmps38
    go_wp2_with fail
    refine (l1In_eq r 1 20 true H1.out _).mono ?_
    rintro e w' ⟨rfl, hw⟩; obtain rfl := hw.symm
    go_wp2_with fail
    refine (l1In_eq d 1 60 b2 H2.out _).mono ?_
    rintro e w' ⟨rfl, hw⟩; obtain rfl := hw.symm
    go_wp2
    go_ret
    exact ⟨by rw [← HT.out]; cases b2 <;> rfl, rfl⟩
end Go.Proofs.Ytcieefggijjekac
namespace Go.Proofs.Ytcieefggijjekac
open Go.RowKit

theorem least7_any (x y : Int) (w : World) : Calls Try.prog 36 #[.int .i64 x, .int .i64 y] w fun e w' => e = .returned (.int .i64 (lst7 x y)) ∧ w' = w := by
  by_cases h : x < y
  · have hr : Hid (lst7 x y = x) := by show _ = _; unfold lst7; rw [if_pos h]
    go_enter Try.func36, Try.ntmps36
    go_wp2
    go_ret
    exact ⟨by rw [hr.out]; rfl, rfl⟩
  · have hr : Hid (lst7 x y = y) := by show _ = _; unfold lst7; rw [if_neg h]
    go_enter Try.func36, Try.ntmps36
    go_wp2
    go_ret
    exact ⟨by rw [hr.out]; rfl, rfl⟩
end Go.Proofs.Ytcieefggijjekac
