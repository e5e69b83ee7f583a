/-
  impl.parentOf, cmp.Compare, cmp.Or of three, impl.lessWork: which of two is less. Nothing old is written.
-/
import Derived.Test.YtndbdioignmaeaaHeapLaws
import Derived.Deep.RegionHeld3
namespace Go.Proofs.Ytndbdioignmaeaa
open Go.RowKit

theorem parent_any (k m : Nat) (w : World) (h0 : 0 < k) (h1 : k ≤ 1048576) (hm : m = (k - 1) / 2) : Calls Try.prog 100 #[.int .i64 k] w fun e w' => e = .returned (.int .i64 m) ∧ w' = w := by
  obtain ⟨k1, hk1⟩ : ∃ k1, k1 = k - 1 := ⟨_, rfl⟩
  have hw : IntKind.i64.wrap ((k : Int) - 1) = (k1 : Int) := by rw [IntKind.wrap_i64]; omega
  have hz : (k : Int) - 1 = (k1 : Int) := by omega
  have hq1 : ((k1 : Int).tdiv 2) = (m : Int) := by rw [hm, hk1]; rfl
  have hq2 : (k1 : Int) / 2 = (m : Int) := by omega
  have hq3 : IntKind.i64.wrap (m : Int) = (m : Int) := by rw [IntKind.wrap_i64]; omega
  clear hk1
  go_enter Try.func100, Try.ntmps100
  go_wp2
  go_ret
  exact ⟨by simp; omega, rfl⟩
theorem isnan_any (n : Int) (w : World) : Calls Try.prog 106 #[.int .i64 n] w fun e w' => e = .returned (.bool false) ∧ w' = w := by
  go_enter Try.func106, Try.ntmps106
  go_wp2
  go_ret
  exact ⟨by simp, rfl⟩
def cmpI (a b : Int) : Int := if a < b then -1 else if b < a then 1 else 0
set_option maxHeartbeats 1000000 in
theorem compare_any (a b : Int) (w : World) : Calls Try.prog 102 #[.int .i64 a, .int .i64 b] w fun e w' => e = .returned (.int .i64 (cmpI a b)) ∧ w' = w := by
  by_cases h1 : a < b
  · have hv : Hid (cmpI a b = -1) := by show _ = _; unfold cmpI; rw [if_pos h1]
    go_enter Try.func102, Try.ntmps102
    go_wp2_with (go_at_call 106; refine (isnan_any _ _).mono ?_; rintro e w' ⟨rfl, hw⟩; obtain rfl := hw.symm)
    go_ret
    exact ⟨by rw [hv.out]; rfl, rfl⟩
  · by_cases h2 : b < a
    · have hv : Hid (cmpI a b = 1) := by show _ = _; unfold cmpI; rw [if_neg h1, if_pos h2]
      go_enter Try.func102, Try.ntmps102
      go_wp2_with (go_at_call 106; refine (isnan_any _ _).mono ?_; rintro e w' ⟨rfl, hw⟩; obtain rfl := hw.symm)
      go_ret
      exact ⟨by rw [hv.out]; rfl, rfl⟩
    · have hv : Hid (cmpI a b = 0) := by show _ = _; unfold cmpI; rw [if_neg h1, if_neg h2]
      go_enter Try.func102, Try.ntmps102
      go_wp2_with (go_at_call 106; refine (isnan_any _ _).mono ?_; rintro e w' ⟨rfl, hw⟩; obtain rfl := hw.symm)
      go_ret
      exact ⟨by rw [hv.out]; rfl, rfl⟩
def or3 (x y z : Int) : Int := if x = 0 then (if y = 0 then z else y) else x
set_option maxHeartbeats 1000000 in
theorem or3_any (g : Nat) (x y z : Int) (w : World) (c0 : w.cell? ⟨g, 0, none⟩ = some (.int .i64 x)) (c1 : w.cell? ⟨g, 1, none⟩ = some (.int .i64 y)) (c2 : w.cell? ⟨g, 2, none⟩ = some (.int .i64 z)) :
    Calls Try.prog 101 #[.slice (some ⟨g, 0, none⟩) 3 3] w fun e w' => e = .returned (.int .i64 (or3 x y z)) ∧ w' = w := by
  by_cases hx : x = 0
  · have dx : (x != 0) = false := by simp [hx]
    by_cases hy : y = 0
    · have dy : (y != 0) = false := by simp [hy]
      by_cases hz : z = 0
      · have dz : (z != 0) = false := by simp [hz]
        have hv : Hid (or3 x y z = 0) := by show _ = _; simp [or3, hx, hy, hz]
        clear hx hy hz
        go_enter Try.func101, Try.ntmps101
        go_wp2
        go_rounds 4
        go_ret
        exact ⟨by rw [hv.out]; rfl, rfl⟩
      · have dz : (z != 0) = true := by simpa using hz
        have hv : Hid (or3 x y z = z) := by show _ = _; simp [or3, hx, hy]
        clear hx hy hz
        go_enter Try.func101, Try.ntmps101
        go_wp2
        go_rounds 3
        go_ret
        exact ⟨by rw [hv.out]; rfl, rfl⟩
    · have dy : (y != 0) = true := by simpa using hy
      have hv : Hid (or3 x y z = y) := by show _ = _; simp [or3, hx, hy]
      clear hx hy
      go_enter Try.func101, Try.ntmps101
      go_wp2
      go_rounds 2
      go_ret
      exact ⟨by rw [hv.out]; rfl, rfl⟩
  · have dx : (x != 0) = true := by simpa using hx
    have hv : Hid (or3 x y z = x) := by show _ = _; simp [or3, hx]
    clear hx
    go_enter Try.func101, Try.ntmps101
    go_wp2
    go_rounds 1
    go_ret
    exact ⟨by rw [hv.out]; rfl, rfl⟩
theorem or3_less (x y : WkEl) : decide (or3 (cmpI x.1 y.1) (cmpI x.2.1 y.2.1) (cmpI x.2.2 y.2.2) < 0) = lessB x y := by
  have hc : ∀ a b : Int, (cmpI a b = 0 ↔ a = b) ∧ (cmpI a b < 0 ↔ a < b) := by
    intro a b
    unfold cmpI
    split
    · omega
    · split <;> omega
  rw [Bool.eq_iff_iff, lessB_iff, decide_eq_true_eq]
  have h1 := hc x.1 y.1
  have h2 := hc x.2.1 y.2.1
  have h3 := hc x.2.2 y.2.2
  unfold or3
  split
  · split <;> omega
  · omega
set_option maxHeartbeats 2000000 in
theorem lessWork_eq (x y : WkEl) (t : Bool) (h : lessB x y = t) (w : World) : Calls Try.prog 81 #[.agg #[.int .i64 x.1, .int .i64 x.2.1, .int .i64 x.2.2], .agg #[.int .i64 y.1, .int .i64 y.2.1, .int .i64 y.2.2]] w fun e w' => e = .returned (.bool t) ∧ Below w.heap.size w w' := by
  have HT : Hid (decide (or3 (cmpI x.1 y.1) (cmpI x.2.1 y.2.1) (cmpI x.2.2 y.2.2) < 0) = t) := (or3_less x y).trans h
  obtain ⟨a, b, c⟩ := x
  obtain ⟨p, q, r⟩ := y
  clear h
  go_enter Try.func81, Try.ntmps81
  go_wp2_with fail
  go_region_held3 (fun w' => (w'.cell? ⟨w.heap.size, 0, none⟩ = some (.int .i64 a) ∧ w'.cell? ⟨w.heap.size, 1, none⟩ = some (.int .i64 b) ∧ w'.cell? ⟨w.heap.size, 2, none⟩ = some (.int .i64 c)) ∧ w'.cell? ⟨w.heap.size + 1, 0, none⟩ = some (.int .i64 p) ∧ w'.cell? ⟨w.heap.size + 1, 1, none⟩ = some (.int .i64 q) ∧ w'.cell? ⟨w.heap.size + 1, 2, none⟩ = some (.int .i64 r)) (go_keep)
    (first
      | (go_at_call 101; refine (or3_any _ (cmpI a p) (cmpI b q) (cmpI c r) _ (by simp; rw [World.cell?_alloc_at _ _ _ _ (by simp)]; rfl) (by simp; rw [World.cell?_alloc_at _ _ _ _ (by simp)]; rfl) (by simp; rw [World.cell?_alloc_at _ _ _ _ (by simp)]; rfl)).mono ?_; rintro e w' ⟨rfl, hw⟩; obtain rfl := hw.symm)
      | (go_at_call 102; refine (compare_any _ _ _).mono ?_; rintro e w' ⟨rfl, hw⟩; obtain rfl := hw.symm))
  all_goals go_wp2
  all_goals go_ret
  all_goals exact ⟨by rw [← HT.out]; rfl, by go_grown⟩
end Go.Proofs.Ytndbdioignmaeaa
