/-
  spec.l7Rate: whether a rate and a depth are as said. Nothing is written.
-/
import Derived.Test.YtcieefggijjekazSIn
import Derived.Test.YtcieefggijjekazFlowFns
namespace Go.Proofs.Ytcieefggijjekaz
open Go.RowKit

set_option maxHeartbeats 1000000 in
theorem srate_eq (r d : Int) (t : Bool) (h : rateB r d = t) (w : World) : Calls Try.prog 35 #[.int .i64 r, .int .i64 d] w fun e w' => e = .returned (.bool t) ∧ w' = w := by
  have HT : Hid ((decide (1 ≤ r ∧ r ≤ 20) && decide (1 ≤ d ∧ d ≤ 60)) = t) := h
  clear h
  obtain ⟨b1, h1⟩ : ∃ b, decide (1 ≤ r ∧ r ≤ 20) = b := ⟨_, rfl⟩
  obtain ⟨b2, h2⟩ : ∃ b, decide (1 ≤ d ∧ d ≤ 60) = b := ⟨_, rfl⟩
  have H1 := hid h1
  have H2 := hid h2
  rw [h1, h2] at HT
  clear h1 h2
  cases b1
  · go_enter Try.func35, Try.ntmps35
    go_wp2_with fail
    refine (l1In_eq r 1 20 false H1.out _).mono ?_
    rintro e w' ⟨rfl, hw⟩; obtain rfl := hw.symm
    go_wp2
    go_ret
    exact ⟨by rw [← HT.out]; rfl, rfl⟩
  · go_enter Try.func35, Try.ntmps35
    go_wp2_with fail
    refine (l1In_eq r 1 20 true H1.out _).mono ?_
    rintro e w' ⟨rfl, hw⟩; obtain rfl := hw.symm
    go_wp2_with fail
    refine (l1In_eq d 1 60 b2 H2.out _).mono ?_
    rintro e w' ⟨rfl, hw⟩; obtain rfl := hw.symm
    go_wp2
    go_ret
    exact ⟨by rw [← HT.out]; cases b2 <;> rfl, rfl⟩
end Go.Proofs.Ytcieefggijjekaz
