/-
  laws.markTurns, laws.heldTurns: all numbers in its rows are numbered, and told to be so. Nothing else is written.
-/
import Derived.Test.YteeaebelknpdjbaBoxL
import Derived.Test.YteeaebelknpdjbaKIntMark
import Derived.Test.YteeaebelknpdjbaQMark
namespace Go.Proofs.Yteeaebelknpdjba
open Go.RowKit

def tuMk (k : Int) (D : TuD) : TuD := ⟨kmarks k D.f0.length, qmarks (k + (D.f0.length : Nat)) D.f1, kmarks (k + (D.f0.length + preL D.f1 D.f1.length : Nat)) D.f2.length, kmarks (k + (D.f0.length + preL D.f1 D.f1.length + D.f2.length : Nat)) D.f3.length, D.f4⟩
set_option maxRecDepth 100000 in
set_option maxHeartbeats 8000000 in
theorem markTurns_any (S : Nat → Prop) (lo : Nat) (v : Value) (D : TuD) (k m : Int) (w : World) (ho : TuOwn S w v D) (hS : ∀ g, S g → lo ≤ g ∧ g < w.heap.size) (hlo : lo ≤ w.heap.size) (hx : D.f1.length ≤ 1048576) (hn : tuN D ≤ 1048576) (h0 : 0 ≤ k) (h1 : k ≤ 100000000) (hm : m = k + (tuN D : Nat)) :
    Calls Try.prog 16 #[v, .int .i64 k] w fun e w' => e = .returned (.int .i64 m) ∧ TuOwn S w' v (tuMk k D) ∧ Below lo w w' ∧ OnlyS S w w' := by
  obtain ⟨v0, v1, v2, v3, c0, c1, c2, c3, iv, rfl, ha, h0, h1, h2, h3⟩ := ho
  have n0 : c0.1 ≤ c0.2 ∧ ∀ g, c0.1 ≤ g → g < c0.2 → S g := ha.inn 0 (by omega)
  have n1 : c1.1 ≤ c1.2 ∧ ∀ g, c1.1 ≤ g → g < c1.2 → S g := ha.inn 1 (by omega)
  have n2 : c2.1 ≤ c2.2 ∧ ∀ g, c2.1 ≤ g → g < c2.2 → S g := ha.inn 2 (by omega)
  have n3 : c3.1 ≤ c3.2 ∧ ∀ g, c3.1 ≤ g → g < c3.2 → S g := ha.inn 3 (by omega)
  have NR : Hid (∀ j, j < D.f1.length → (iv j).1 ≤ (iv j).2 ∧ ∀ g, (iv j).1 ≤ g → g < (iv j).2 → S g) := fun j hj => ha.inn (j + 4) (by omega)
  have d0_1 : c0.2 ≤ c1.1 ∨ c1.2 ≤ c0.1 := ha.dj 0 1 (by omega) (by omega) (by omega)
  have d0_2 : c0.2 ≤ c2.1 ∨ c2.2 ≤ c0.1 := ha.dj 0 2 (by omega) (by omega) (by omega)
  have d0_3 : c0.2 ≤ c3.1 ∨ c3.2 ≤ c0.1 := ha.dj 0 3 (by omega) (by omega) (by omega)
  have d1_2 : c1.2 ≤ c2.1 ∨ c2.2 ≤ c1.1 := ha.dj 1 2 (by omega) (by omega) (by omega)
  have d1_3 : c1.2 ≤ c3.1 ∨ c3.2 ≤ c1.1 := ha.dj 1 3 (by omega) (by omega) (by omega)
  have d2_3 : c2.2 ≤ c3.1 ∨ c3.2 ≤ c2.1 := ha.dj 2 3 (by omega) (by omega) (by omega)
  have DR0 : Hid (∀ j, j < D.f1.length → Dj c0 (iv j)) := fun j hj => ha.dj 0 (j + 4) (by omega) (by omega) (by omega)
  have DR1 : Hid (∀ j, j < D.f1.length → Dj c1 (iv j)) := fun j hj => ha.dj 1 (j + 4) (by omega) (by omega) (by omega)
  have DR2 : Hid (∀ j, j < D.f1.length → Dj c2 (iv j)) := fun j hj => ha.dj 2 (j + 4) (by omega) (by omega) (by omega)
  have DR3 : Hid (∀ j, j < D.f1.length → Dj c3 (iv j)) := fun j hj => ha.dj 3 (j + 4) (by omega) (by omega) (by omega)
  have DRR : Hid (∀ i j, i < D.f1.length → j < D.f1.length → i ≠ j → Dj (iv i) (iv j)) := fun i j hi hj hne => ha.dj (i + 4) (j + 4) (by omega) (by omega) (by omega)
  have HA := hid ha
  have hN : D.f0.length + preL D.f1 D.f1.length + D.f2.length + D.f3.length ≤ 1048576 := hn
  obtain ⟨k1, hk1⟩ : ∃ k1 : Int, k1 = (k + (D.f0.length : Nat)) := ⟨_, rfl⟩
  have HK1 := hid hk1
  have hq1 : k1 = k + (D.f0.length : Nat) := by omega
  have HQ1 := hid hq1
  have hb1 : 0 ≤ k1 ∧ k1 ≤ 200000000 := by omega
  obtain ⟨k2, hk2⟩ : ∃ k2 : Int, k2 = (k + (D.f0.length + preL D.f1 D.f1.length : Nat)) := ⟨_, rfl⟩
  have HK2 := hid hk2
  have hq2 : k2 = k1 + (preL D.f1 D.f1.length : Nat) := by omega
  have HQ2 := hid hq2
  have hb2 : 0 ≤ k2 ∧ k2 ≤ 200000000 := by omega
  obtain ⟨k3, hk3⟩ : ∃ k3 : Int, k3 = (k + (D.f0.length + preL D.f1 D.f1.length + D.f2.length : Nat)) := ⟨_, rfl⟩
  have HK3 := hid hk3
  have hq3 : k3 = k2 + (D.f2.length : Nat) := by omega
  have HQ3 := hid hq3
  have hb3 : 0 ≤ k3 ∧ k3 ≤ 200000000 := by omega
  have hk4 : m = (k + (D.f0.length + preL D.f1 D.f1.length + D.f2.length + D.f3.length : Nat)) := hm
  have HK4 := hid hk4
  have hq4 : m = k3 + (D.f3.length : Nat) := by omega
  have HQ4 := hid hq4
  have hb4 : 0 ≤ m ∧ m ≤ 200000000 := by omega
  clear ha hm hn hk1 hk2 hk3 hk4 hq1 hq2 hq3 hq4
  have PB := hid (boxL_new w [v0, v1, v2, v3, .int .i64 D.f4] 28)
  obtain ⟨W, hW⟩ : ∃ W, W = w.alloc (.cells #[v0, v1, v2, v3, .int .i64 D.f4] 28) := ⟨_, rfl⟩
  have bW : Below w.heap.size w W := by rw [hW]; exact (Below.refl _ _).alloc (Nat.le_refl _) _
  have BW := hid bW
  have H0 := hid (h0.below bW)
  have H1 := hid (h1.below bW)
  have H2 := hid (h2.below bW)
  have H3 := hid (h3.below bW)
  have ON : Hid (OnlyP S W W) := OnlyP.refl _ _
  rw [← hW] at PB
  have HW := hid hW
  clear bW hW h0 h1 h2 h3
  go_enter Try.func16, Try.ntmps16
  have p := (PB.out.cell 0 (by simp)).1
  change World.cell? _ _ = some v0 at p
  rw [HW.out] at p
  go_wp2_with fail
  rw [← HW.out]
  refine (kmarkIntS_any c0.1 c0.2 _ D.f0 k k1 _ H0.out (by omega) (by omega) (by omega) HQ1.out).mono ?_
  rintro e w1 ⟨rfl, o, b, on⟩
  have op := OnlyP.of b on
  replace H0 := hid o
  replace H1 := hid (H1.out.onlyP op (fun g g1 g2 h => by omega) (fun r hr g g1 g2 h => by have := DR0.out r (by first | exact hr | (rw [length_qmarks] at hr; exact hr)); unfold Dj at this; omega))
  replace H2 := hid (H2.out.onlyP op (fun g g1 g2 h => by omega))
  replace H3 := hid (H3.out.onlyP op (fun g g1 g2 h => by omega))
  have oq : OnlyP S _ w1 := op.mono (fun g h => n0.2 g h.1 h.2)
  replace PB := hid (PB.out.of_block (oq.2.1 w.heap.size (fun h => Nat.lt_irrefl _ (hS _ h).2)))
  replace ON := hid (ON.out.trans oq)
  clear o op oq b on p
  have p := (PB.out.cell 1 (by simp)).1
  change World.cell? _ _ = some v1 at p
  go_wp2_with fail
  refine (markIntSS_any _ D.f1 c1 iv k1 k2 _ H1.out DR1.out DRR.out hx (by omega) (by omega) (by omega) HQ2.out).mono ?_
  rintro e w2 ⟨rfl, o, op⟩
  replace H0 := hid (H0.out.onlyP op (fun g g1 g2 ⟨r, hr, r1, r2⟩ => by have := DR0.out r hr; unfold Dj at this; omega))
  replace H1 := hid o
  replace H2 := hid (H2.out.onlyP op (fun g g1 g2 ⟨r, hr, r1, r2⟩ => by have := DR2.out r hr; unfold Dj at this; omega))
  replace H3 := hid (H3.out.onlyP op (fun g g1 g2 ⟨r, hr, r1, r2⟩ => by have := DR3.out r hr; unfold Dj at this; omega))
  have oq : OnlyP S _ w2 := op.mono (fun g ⟨r, hr, r1, r2⟩ => (NR.out r hr).2 g r1 r2)
  replace PB := hid (PB.out.of_block (oq.2.1 w.heap.size (fun h => Nat.lt_irrefl _ (hS _ h).2)))
  replace ON := hid (ON.out.trans oq)
  clear o op oq p
  have p := (PB.out.cell 2 (by simp)).1
  change World.cell? _ _ = some v2 at p
  go_wp2_with fail
  refine (kmarkIntS_any c2.1 c2.2 _ D.f2 k2 k3 _ H2.out (by omega) (by omega) (by omega) HQ3.out).mono ?_
  rintro e w3 ⟨rfl, o, b, on⟩
  have op := OnlyP.of b on
  replace H0 := hid (H0.out.onlyP op (fun g g1 g2 h => by omega))
  replace H1 := hid (H1.out.onlyP op (fun g g1 g2 h => by omega) (fun r hr g g1 g2 h => by have := DR2.out r (by first | exact hr | (rw [length_qmarks] at hr; exact hr)); unfold Dj at this; omega))
  replace H2 := hid o
  replace H3 := hid (H3.out.onlyP op (fun g g1 g2 h => by omega))
  have oq : OnlyP S _ w3 := op.mono (fun g h => n2.2 g h.1 h.2)
  replace PB := hid (PB.out.of_block (oq.2.1 w.heap.size (fun h => Nat.lt_irrefl _ (hS _ h).2)))
  replace ON := hid (ON.out.trans oq)
  clear o op oq b on p
  have p := (PB.out.cell 3 (by simp)).1
  change World.cell? _ _ = some v3 at p
  go_wp2_with fail
  refine (kmarkIntS_any c3.1 c3.2 _ D.f3 k3 m _ H3.out (by omega) (by omega) (by omega) HQ4.out).mono ?_
  rintro e w4 ⟨rfl, o, b, on⟩
  have op := OnlyP.of b on
  replace H0 := hid (H0.out.onlyP op (fun g g1 g2 h => by omega))
  replace H1 := hid (H1.out.onlyP op (fun g g1 g2 h => by omega) (fun r hr g g1 g2 h => by have := DR3.out r (by first | exact hr | (rw [length_qmarks] at hr; exact hr)); unfold Dj at this; omega))
  replace H2 := hid (H2.out.onlyP op (fun g g1 g2 h => by omega))
  replace H3 := hid o
  have oq : OnlyP S _ w4 := op.mono (fun g h => n3.2 g h.1 h.2)
  replace PB := hid (PB.out.of_block (oq.2.1 w.heap.size (fun h => Nat.lt_irrefl _ (hS _ h).2)))
  replace ON := hid (ON.out.trans oq)
  clear o op oq b on p
  go_wp2
  go_ret
  have bL : Below lo w w4 := (BW.out.mono hlo).trans (ON.out.below fun j h => (hS j h).1)
  exact ⟨rfl, ⟨v0, v1, v2, v3, c0, c1, c2, c3, iv, rfl, by have h := HA.out; simpa only [tuMk, length_qmarks] using h, H0.out, by have h := H1.out; rw [HK1.out] at h; exact h, by have h := H2.out; rw [HK2.out] at h; exact h, by have h := H3.out; rw [HK3.out] at h; exact h⟩, bL, fun j hj ho => (ON.out.2.1 j ho).trans (BW.out.block j hj)⟩
set_option maxRecDepth 100000 in
set_option maxHeartbeats 8000000 in
theorem heldTurns_any (v : Value) (D : TuD) (k m : Int) (w : World) (hr : TuReads w v (tuMk k D)) (hx : D.f1.length ≤ 1048576) (hn : tuN D ≤ 1048576) (h0 : 0 ≤ k) (h1 : k ≤ 100000000) (hm : m = k + (tuN D : Nat)) :
    Calls Try.prog 17 #[v, .int .i64 k] w fun e w' => e = .returned (.int .i64 m) ∧ Below w.heap.size w w' := by
  obtain ⟨v0, v1, v2, v3, rfl, h0, h1, h2, h3⟩ := hr
  have hN : D.f0.length + preL D.f1 D.f1.length + D.f2.length + D.f3.length ≤ 1048576 := hn
  obtain ⟨k1, hk1⟩ : ∃ k1 : Int, k1 = (k + (D.f0.length : Nat)) := ⟨_, rfl⟩
  have hq1 : k1 = k + (D.f0.length : Nat) := by omega
  have HQ1 := hid hq1
  have hb1 : 0 ≤ k1 ∧ k1 ≤ 200000000 := by omega
  have hd1 : decide (k1 < 0) = false := by rw [decide_eq_false_iff_not]; omega
  obtain ⟨k2, hk2⟩ : ∃ k2 : Int, k2 = (k + (D.f0.length + preL D.f1 D.f1.length : Nat)) := ⟨_, rfl⟩
  have hq2 : k2 = k1 + (preL D.f1 D.f1.length : Nat) := by omega
  have HQ2 := hid hq2
  have hb2 : 0 ≤ k2 ∧ k2 ≤ 200000000 := by omega
  have hd2 : decide (k2 < 0) = false := by rw [decide_eq_false_iff_not]; omega
  obtain ⟨k3, hk3⟩ : ∃ k3 : Int, k3 = (k + (D.f0.length + preL D.f1 D.f1.length + D.f2.length : Nat)) := ⟨_, rfl⟩
  have hq3 : k3 = k2 + (D.f2.length : Nat) := by omega
  have HQ3 := hid hq3
  have hb3 : 0 ≤ k3 ∧ k3 ≤ 200000000 := by omega
  have hd3 : decide (k3 < 0) = false := by rw [decide_eq_false_iff_not]; omega
  have hk4 : m = (k + (D.f0.length + preL D.f1 D.f1.length + D.f2.length + D.f3.length : Nat)) := hm
  have hq4 : m = k3 + (D.f3.length : Nat) := by omega
  have HQ4 := hid hq4
  have hb4 : 0 ≤ m ∧ m ≤ 200000000 := by omega
  have hd4 : decide (m < 0) = false := by rw [decide_eq_false_iff_not]; omega
  have H0 : Hid (KReads w v0 (kmarks k D.f0.length)) := by show KReads w v0 (kmarks k D.f0.length); exact h0
  have H1 : Hid (QReads w v1 (qmarks k1 D.f1)) := by show QReads w v1 (qmarks k1 D.f1); rw [hk1]; exact h1
  have H2 : Hid (KReads w v2 (kmarks k2 D.f2.length)) := by show KReads w v2 (kmarks k2 D.f2.length); rw [hk2]; exact h2
  have H3 : Hid (KReads w v3 (kmarks k3 D.f3.length)) := by show KReads w v3 (kmarks k3 D.f3.length); rw [hk3]; exact h3
  clear hm hn hk1 hk2 hk3 hk4 hq1 hq2 hq3 hq4 h0 h1 h2 h3
  show Calls Try.prog 17 #[.agg #[v0, v1, v2, v3, .int .i64 D.f4], .int .i64 k] w _
  have PB := hid (boxL_new w [v0, v1, v2, v3, .int .i64 D.f4] 28)
  have BW : Hid (Below w.heap.size w (w.alloc (.cells #[v0, v1, v2, v3, .int .i64 D.f4] 28))) := (Below.refl _ _).alloc (Nat.le_refl _) _
  have p0 := (PB.out.cell 0 (by simp)).1
  change World.cell? _ _ = some v0 at p0
  have p1 := (PB.out.cell 1 (by simp)).1
  change World.cell? _ _ = some v1 at p1
  have p2 := (PB.out.cell 2 (by simp)).1
  change World.cell? _ _ = some v2 at p2
  have p3 := (PB.out.cell 3 (by simp)).1
  change World.cell? _ _ = some v3 at p3
  go_enter Try.func17, Try.ntmps17
  go_wp2_with fail
  refine (kheldIntS_any _ D.f0.length k k1 _ (H0.out.below BW.out) (by omega) (by omega) (by omega) HQ1.out).mono ?_
  rintro e w' ⟨rfl, hw⟩; obtain rfl := hw.symm
  go_wp2_with fail
  refine (heldIntSS_any _ D.f1 k1 k2 _ (H1.out.below BW.out) hx (by omega) (by omega) (by omega) HQ2.out).mono ?_
  rintro e w' ⟨rfl, hw⟩; obtain rfl := hw.symm
  go_wp2_with fail
  refine (kheldIntS_any _ D.f2.length k2 k3 _ (H2.out.below BW.out) (by omega) (by omega) (by omega) HQ3.out).mono ?_
  rintro e w' ⟨rfl, hw⟩; obtain rfl := hw.symm
  go_wp2_with fail
  refine (kheldIntS_any _ D.f3.length k3 m _ (H3.out.below BW.out) (by omega) (by omega) (by omega) HQ4.out).mono ?_
  rintro e w' ⟨rfl, hw⟩; obtain rfl := hw.symm
  go_wp2
  go_ret
  exact ⟨rfl, BW.out⟩
end Go.Proofs.Yteeaebelknpdjba
