/-
  spec.l9Seen: whether what was seen is as said. Nothing old is written.
-/
import Derived.Test.YteeaebelknpdjbbSIn
import Derived.Test.YteeaebelknpdjbbGuForm
namespace Go.Proofs.Yteeaebelknpdjbb
open Go.RowKit

set_option maxHeartbeats 2000000 in
theorem sseen_eq (x : SnEl) (r : Bool) (h : okS x = r) (w : World) : Calls Try.prog 28 #[snV x] w fun e w' => e = .returned (.bool r) ∧ Below w.heap.size w w' := by
  obtain ⟨t, tw, lo⟩ := x
  have HT : Hid ((decide (0 ≤ t ∧ t ≤ 1000) && (!lo || (decide (t = 0) && !tw))) = r) := h
  clear h
  obtain ⟨b1, h1⟩ : ∃ b, decide (0 ≤ t ∧ t ≤ 1000) = b := ⟨_, rfl⟩
  obtain ⟨b2, h2⟩ : ∃ b, decide (t = 0) = b := ⟨_, rfl⟩
  have H1 := hid h1
  rw [h1, h2] at HT
  have hz : (t == 0) = b2 := by rw [← h2]; simp [BEq.beq]
  clear h1 h2
  show Calls Try.prog 28 #[.agg #[.int .i64 t, .bool tw, .bool lo]] w _
  go_enter Try.func28, Try.ntmps28
  go_wp2_with fail
  refine (l1In_eq t 0 1000 b1 H1.out _).mono ?_
  rintro e w' ⟨rfl, hw⟩; obtain rfl := hw.symm
  cases b1
  · go_wp2
    go_ret
    exact ⟨by rw [← HT.out]; rfl, by go_grown⟩
  cases lo
  · go_wp2
    go_ret
    exact ⟨by rw [← HT.out]; rfl, by go_grown⟩
  cases b2
  · go_wp2
    go_ret
    exact ⟨by rw [← HT.out]; rfl, by go_grown⟩
  cases tw
  · go_wp2
    go_ret
    exact ⟨by rw [← HT.out]; rfl, by go_grown⟩
  · go_wp2
    go_ret
    exact ⟨by rw [← HT.out]; rfl, by go_grown⟩
end Go.Proofs.Yteeaebelknpdjbb
