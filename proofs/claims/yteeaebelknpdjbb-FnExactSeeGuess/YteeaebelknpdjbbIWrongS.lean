/-
  impl.wrongSeen: whether what was seen is not as said. Nothing old is written.
-/
import Derived.Test.YteeaebelknpdjbbGuForm
namespace Go.Proofs.Yteeaebelknpdjbb
open Go.RowKit

set_option maxHeartbeats 2000000 in
theorem iwrongS_eq (x : SnEl) (r : Bool) (h : okS x = !r) (w : World) : Calls Try.prog 30 #[snV x] w fun e w' => e = .returned (.bool r) ∧ Below w.heap.size w w' := by
  obtain ⟨t, tw, lo⟩ := x
  have HT : Hid ((!(decide (0 ≤ t ∧ t ≤ 1000) && (!lo || (decide (t = 0) && !tw)))) = r) := by
    have h' : (decide (0 ≤ t ∧ t ≤ 1000) && (!lo || (decide (t = 0) && !tw))) = !r := h
    show _ = _
    rw [h', Bool.not_not]
  clear h
  show Calls Try.prog 30 #[.agg #[.int .i64 t, .bool tw, .bool lo]] w _
  by_cases h1 : t < 0
  · have d1 : decide (t < 0) = true := by simpa using h1
    have HV : Hid (r = true) := by show _ = _; rw [← HT.out, decide_eq_false (p := 0 ≤ t ∧ t ≤ 1000) (by omega)]; rfl
    clear HT
    go_enter Try.func30, Try.ntmps30
    go_wp2
    go_ret
    exact ⟨by rw [HV.out]; rfl, by go_grown⟩
  have d1 : decide (t < 0) = false := by simpa using h1
  by_cases h2 : 1000 < t
  · have d2 : decide (1000 < t) = true := by simpa using h2
    have HV : Hid (r = true) := by show _ = _; rw [← HT.out, decide_eq_false (p := 0 ≤ t ∧ t ≤ 1000) (by omega)]; rfl
    clear HT
    go_enter Try.func30, Try.ntmps30
    go_wp2
    go_ret
    exact ⟨by rw [HV.out]; rfl, by go_grown⟩
  have d2 : decide (1000 < t) = false := by simpa using h2
  cases lo
  · have HV : Hid (r = false) := by show _ = _; rw [← HT.out, decide_eq_true (p := 0 ≤ t ∧ t ≤ 1000) (by omega)]; rfl
    clear HT
    go_enter Try.func30, Try.ntmps30
    go_wp2
    go_ret
    exact ⟨by rw [HV.out]; rfl, by go_grown⟩
  obtain ⟨b2, h3⟩ : ∃ b, decide (t = 0) = b := ⟨_, rfl⟩
  have hz : (t != 0) = !b2 := by rw [← h3]; simp [bne, BEq.beq]
  have HV : Hid (r = !(b2 && !tw)) := by show _ = _; rw [← HT.out, decide_eq_true (p := 0 ≤ t ∧ t ≤ 1000) (by omega), h3]; rfl
  clear HT h3
  cases b2
  · go_enter Try.func30, Try.ntmps30
    go_wp2
    go_ret
    exact ⟨by rw [HV.out]; rfl, by go_grown⟩
  cases tw
  · go_enter Try.func30, Try.ntmps30
    go_wp2
    go_ret
    exact ⟨by rw [HV.out]; rfl, by go_grown⟩
  · go_enter Try.func30, Try.ntmps30
    go_wp2
    go_ret
    exact ⟨by rw [HV.out]; rfl, by go_grown⟩
end Go.Proofs.Yteeaebelknpdjbb
