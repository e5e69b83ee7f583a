/-
  laws.szTurns: what is left of a bound behind all its lengths.
-/
import Derived.Test.YtnnmiddhbeiogbaKTurnsArg
import Derived.Test.YtnnmiddhbeiogbaQSz
namespace Go.Proofs.Ytnnmiddhbeiogba
open Go.RowKit

set_option maxRecDepth 100000 in
set_option maxHeartbeats 8000000 in
theorem szTurns_any (v : Value) (D : TuD) (w : World) (h : TuArg w v D) (l : Int) (hl0 : 0 ≤ l) (hl1 : l ≤ 1048576) :
    Calls Try.prog 9 #[v, .int .i64 l] w fun e w' => ∃ r : Int, e = .returned (.int .i64 r) ∧ ((r = -1 ∨ r = l - (tuTot D : Nat)) ∧ (0 ≤ r → (tuTot D : Nat) ≤ l) ∧ r ≤ l) ∧ Below w.heap.size w w' := by
  obtain ⟨v0, v1, v2, v3, rfl, h0, h1, h2, h3⟩ := h
  have H0 := hid h0
  have H1 := hid h1
  have H2 := hid h2
  have H3 := hid h3
  have HT : Hid (tuTot D = D.f0.length + (D.f1.length + preL D.f1 D.f1.length) + D.f2.length + D.f3.length) := rfl
  clear h0 h1 h2 h3
  have PB := hid (boxL_new w [v0, v1, v2, v3, .int .i64 D.f4] 25)
  have BW : Hid (Below w.heap.size w (w.alloc (.cells #[v0, v1, v2, v3, .int .i64 D.f4] 25))) := (Below.refl _ _).alloc (Nat.le_refl _) _
  have p0 := (PB.out.cell 0 (by simp)).1
  change World.cell? _ _ = some v0 at p0
  have p1 := (PB.out.cell 1 (by simp)).1
  change World.cell? _ _ = some v1 at p1
  have p2 := (PB.out.cell 2 (by simp)).1
  change World.cell? _ _ = some v2 at p2
  have p3 := (PB.out.cell 3 (by simp)).1
  change World.cell? _ _ = some v3 at p3
  go_enter Try.func9, Try.ntmps9
  go_wp2_with fail
  refine (szIntS_any _ D.f0 _ (H0.out.below BW.out) l (by omega) (by omega)).mono ?_
  rintro e w' ⟨l1, rfl, hl1, hw⟩; obtain rfl := hw.symm
  by_cases hc1 : l1 < 0
  · have hd1 : decide (l1 < 0) = true := by rw [decide_eq_true_eq]; exact hc1
    have HE : Hid (l1 = -1) := by show _ = _; omega
    go_wp2
    go_ret
    exact ⟨_, rfl, ⟨.inl rfl, fun h => absurd h (by decide), by omega⟩, BW.out⟩
  have hd1 : decide (l1 < 0) = false := by rw [decide_eq_false_iff_not]; exact hc1
  go_wp2_with fail
  refine (szIntSS_any _ D.f1 _ (H1.out.below BW.out) l1 (by omega) (by omega)).mono ?_
  rintro e w' ⟨l2, rfl, hl2, hw⟩; obtain rfl := hw.symm
  by_cases hc2 : l2 < 0
  · have hd2 : decide (l2 < 0) = true := by rw [decide_eq_true_eq]; exact hc2
    have HE : Hid (l2 = -1) := by show _ = _; omega
    go_wp2
    go_ret
    exact ⟨_, rfl, ⟨.inl rfl, fun h => absurd h (by decide), by omega⟩, BW.out⟩
  have hd2 : decide (l2 < 0) = false := by rw [decide_eq_false_iff_not]; exact hc2
  go_wp2_with fail
  refine (szIntS_any _ D.f2 _ (H2.out.below BW.out) l2 (by omega) (by omega)).mono ?_
  rintro e w' ⟨l3, rfl, hl3, hw⟩; obtain rfl := hw.symm
  by_cases hc3 : l3 < 0
  · have hd3 : decide (l3 < 0) = true := by rw [decide_eq_true_eq]; exact hc3
    have HE : Hid (l3 = -1) := by show _ = _; omega
    go_wp2
    go_ret
    exact ⟨_, rfl, ⟨.inl rfl, fun h => absurd h (by decide), by omega⟩, BW.out⟩
  have hd3 : decide (l3 < 0) = false := by rw [decide_eq_false_iff_not]; exact hc3
  go_wp2_with fail
  refine (szIntS_any _ D.f3 _ (H3.out.below BW.out) l3 (by omega) (by omega)).mono ?_
  rintro e w' ⟨l4, rfl, hl4, hw⟩; obtain rfl := hw.symm
  by_cases hc4 : l4 < 0
  · have hd4 : decide (l4 < 0) = true := by rw [decide_eq_true_eq]; exact hc4
    have HE : Hid (l4 = -1) := by show _ = _; omega
    go_wp2
    go_ret
    exact ⟨_, rfl, ⟨.inl rfl, fun h => absurd h (by decide), by omega⟩, BW.out⟩
  have hd4 : decide (l4 < 0) = false := by rw [decide_eq_false_iff_not]; exact hc4
  go_wp2
  go_ret
  have ht := HT.out
  refine ⟨_, rfl, ⟨.inr ?_, fun _ => ?_, ?_⟩, BW.out⟩ <;> omega
end Go.Proofs.Ytnnmiddhbeiogba
