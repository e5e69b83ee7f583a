/-
  spec.GoodBucket: whether a bucket is good. Nothing old is written.
-/
import Derived.Test.YtcieefggijjekazSRate7
import Derived.Test.YtcieefggijjekazSIn
import Derived.Test.YtcieefggijjekazBkForm
namespace Go.Proofs.Ytcieefggijjekaz
open Go.RowKit

set_option maxHeartbeats 2000000 in
theorem sgoodB_eq (x : BkEl) (t : Bool) (h : bktB x = t) (w : World) : Calls Try.prog 24 #[bkV x] w fun e w' => e = .returned (.bool t) ∧ Below w.heap.size w w' := by
  obtain ⟨r, d, q⟩ := x
  have HT : Hid ((rateB r d && decide (0 ≤ q ∧ q ≤ d)) = t) := h
  clear h
  obtain ⟨b1, h1⟩ : ∃ b, rateB r d = b := ⟨_, rfl⟩
  obtain ⟨b2, h2⟩ : ∃ b, decide (0 ≤ q ∧ q ≤ d) = b := ⟨_, rfl⟩
  have H1 := hid h1
  have H2 := hid h2
  rw [h1, h2] at HT
  clear h1 h2
  cases b1
  · go_enter Try.func24, Try.ntmps24
    go_wp2_with fail
    refine (srate_eq r d false H1.out _).mono ?_
    rintro e w' ⟨rfl, hw⟩; obtain rfl := hw.symm
    go_wp2
    go_ret
    exact ⟨by rw [← HT.out]; rfl, by go_grown⟩
  · go_enter Try.func24, Try.ntmps24
    go_wp2_with fail
    refine (srate_eq r d true H1.out _).mono ?_
    rintro e w' ⟨rfl, hw⟩; obtain rfl := hw.symm
    go_wp2_with fail
    refine (l1In_eq q 0 d b2 H2.out _).mono ?_
    rintro e w' ⟨rfl, hw⟩; obtain rfl := hw.symm
    go_wp2
    go_ret
    exact ⟨by rw [← HT.out]; cases b2 <;> rfl, by go_grown⟩
end Go.Proofs.Ytcieefggijjekaz
