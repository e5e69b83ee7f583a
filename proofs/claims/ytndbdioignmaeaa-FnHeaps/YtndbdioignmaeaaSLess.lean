/-
  spec.l1In, spec.l3Work, spec.l3Less: whether work is as the document says, whether one is less. Nothing old is written.
-/
import Derived.Test.YtndbdioignmaeaaWkMath
namespace Go.Proofs.Ytndbdioignmaeaa
open Go.RowKit

theorem l1In6_any (n : Int) (w : World) : Calls Try.prog 62 #[.int .i64 n, .int .i64 0, .int .i64 1000000] w fun e w' => e = .returned (.bool (in6 n)) ∧ w' = w := by
  by_cases h1 : 0 ≤ n
  · by_cases h2 : n ≤ 1000000
    · have hv : Hid (in6 n = true) := by show _ = _; simp [in6, h1, h2]
      go_enter Try.func62, Try.ntmps62
      go_wp2
      go_ret
      exact ⟨by rw [hv.out]; rfl, rfl⟩
    · have hv : Hid (in6 n = false) := by show _ = _; simp [in6, h2]
      go_enter Try.func62, Try.ntmps62
      go_wp2
      go_ret
      exact ⟨by rw [hv.out]; rfl, rfl⟩
  · have hv : Hid (in6 n = false) := by show _ = _; simp [in6, h1]
    go_enter Try.func62, Try.ntmps62
    go_wp2
    go_ret
    exact ⟨by rw [hv.out]; rfl, rfl⟩
theorem l1In6_eq (n : Int) (t : Bool) (h : in6 n = t) (w : World) : Calls Try.prog 62 #[.int .i64 n, .int .i64 0, .int .i64 1000000] w fun e w' => e = .returned (.bool t) ∧ w' = w := by rw [← h]; exact l1In6_any n w

set_option maxHeartbeats 1000000 in
theorem l3Work_eq (x : WkEl) (t : Bool) (h : wkB x = t) (w : World) : Calls Try.prog 75 #[.agg #[.int .i64 x.1, .int .i64 x.2.1, .int .i64 x.2.2]] w fun e w' => e = .returned (.bool t) ∧ Below w.heap.size w w' := by
  obtain ⟨p, q, r⟩ := x
  have HT : Hid ((in6 p && (in6 q && in6 r)) = t) := h
  clear h
  cases hp : in6 p
  · have ht : Hid (t = false) := by have := HT.out; rw [hp] at this; exact this.symm
    have HP := hid hp
    clear hp
    go_enter Try.func75, Try.ntmps75
    go_wp2_with fail
    refine (l1In6_eq p false HP.out _).mono ?_
    rintro e w' ⟨rfl, hw⟩; obtain rfl := hw.symm
    go_wp2
    go_ret
    exact ⟨by rw [ht.out]; rfl, by go_grown⟩
  · cases hq : in6 q
    · have ht : Hid (t = false) := by have := HT.out; rw [hp, hq] at this; exact this.symm
      have HP := hid hp
      have HQ := hid hq
      clear hp hq
      go_enter Try.func75, Try.ntmps75
      go_wp2_with fail
      refine (l1In6_eq p true HP.out _).mono ?_
      rintro e w' ⟨rfl, hw⟩; obtain rfl := hw.symm
      go_wp2_with fail
      refine (l1In6_eq q false HQ.out _).mono ?_
      rintro e w' ⟨rfl, hw⟩; obtain rfl := hw.symm
      go_wp2
      go_ret
      exact ⟨by rw [ht.out]; rfl, by go_grown⟩
    · have ht : Hid (in6 r = t) := by have := HT.out; rw [hp, hq] at this; exact this
      have HP := hid hp
      have HQ := hid hq
      clear hp hq
      go_enter Try.func75, Try.ntmps75
      go_wp2_with fail
      refine (l1In6_eq p true HP.out _).mono ?_
      rintro e w' ⟨rfl, hw⟩; obtain rfl := hw.symm
      go_wp2_with fail
      refine (l1In6_eq q true HQ.out _).mono ?_
      rintro e w' ⟨rfl, hw⟩; obtain rfl := hw.symm
      go_wp2_with fail
      refine (l1In6_eq r t ht.out _).mono ?_
      rintro e w' ⟨rfl, hw⟩; obtain rfl := hw.symm
      go_wp2
      go_ret
      exact ⟨rfl, by go_grown⟩

set_option maxHeartbeats 1000000 in
theorem l3Less_eq (x y : WkEl) (t : Bool) (h : lessB x y = t) (w : World) : Calls Try.prog 92 #[.agg #[.int .i64 x.1, .int .i64 x.2.1, .int .i64 x.2.2], .agg #[.int .i64 y.1, .int .i64 y.2.1, .int .i64 y.2.2]] w fun e w' => e = .returned (.bool t) ∧ Below w.heap.size w w' := by
  obtain ⟨a, b, c⟩ := x
  obtain ⟨p, q, r⟩ := y
  have HT : Hid ((if a = p then (if b = q then decide (c < r) else decide (b < q)) else decide (a < p)) = t) := h
  clear h
  by_cases h1 : a = p
  · have d1 : (a != p) = false := by simp [h1]
    by_cases h2 : b = q
    · have d2 : (b != q) = false := by simp [h2]
      have ht : Hid (decide (c < r) = t) := by have := HT.out; rw [if_pos h1, if_pos h2] at this; exact this
      clear h1 h2 HT
      go_enter Try.func92, Try.ntmps92
      go_wp2
      go_ret
      exact ⟨by rw [← ht.out]; rfl, by go_grown⟩
    · have d2 : (b != q) = true := by simpa using h2
      have ht : Hid (decide (b < q) = t) := by have := HT.out; rw [if_pos h1, if_neg h2] at this; exact this
      clear h1 h2 HT
      go_enter Try.func92, Try.ntmps92
      go_wp2
      go_ret
      exact ⟨by rw [← ht.out]; rfl, by go_grown⟩
  · have d1 : (a != p) = true := by simpa using h1
    have ht : Hid (decide (a < p) = t) := by have := HT.out; rw [if_neg h1] at this; exact this
    clear h1 HT
    go_enter Try.func92, Try.ntmps92
    go_wp2
    go_ret
    exact ⟨by rw [← ht.out]; rfl, by go_grown⟩
end Go.Proofs.Ytndbdioignmaeaa
