/-
  The cursor's bucket, spec.DrawGoodBucket, DrawTickBucket, DrawNewBucket: whatever they are. Nothing old is written but the cursor.
-/
import Derived.Test.YtcieefggijjekacDrawFlow
import Derived.Test.YtcieefggijjekacBkForm
import Derived.Deep.RegionHeld3
namespace Go.Proofs.Ytcieefggijjekac
open Go.RowKit

theorem bucket_ret {H : Nat} {W : World} {z : BkEl} {tmps : Array Value} {R : Ending → World → Prop} (x0 x1 x2 : Int) (hc : BkCells W H 0 z) (ht : tmps[2]?.getD undef = .pointer (some ⟨H, 0, none⟩)) (hR : R (.returned (.agg #[.int .i64 x0, .int .i64 x1, .int .i64 x2])) (bput3 W H 0 (x0, x1, x2))) :
    bodyPost Try.prog Try.f42 R .ret { tmps := tmps, defers := [] } (bput3 W H 0 (x0, x1, x2)) := by
  obtain ⟨e0, e1, e2⟩ := bput3_same hc (x0, x1, x2)
  refine bodyPost_ret (v := .agg #[.int .i64 x0, .int .i64 x1, .int .i64 x2]) ?_ rfl hR
  simp only [Nat.zero_add] at e1 e2
  simp [results, Try.results42, go_sem, ht, e0, e1, e2]
set_option maxRecDepth 100000 in
set_option maxHeartbeats 8000000 in
theorem bucket_any (B b N : Nat) (w : World) (h : Cur B w b N) (hN : N ≤ 1152921504606840000) :
    Calls Try.prog 42 #[.pointer (some ⟨b, 0, none⟩)] w fun e w' => ∃ x : BkEl, e = .returned (.agg #[.int .i64 x.1, .int .i64 x.2.1, .int .i64 x.2.2]) ∧ (0 ≤ x.2.1 ∧ x.2.1 ≤ 61) ∧ Cur B w' b (N + 40) ∧ w.grownBy w' (some b) := by
  have hbw := flcur_lt h
  have hBb : B ≤ b := h.1
  have H := hid h
  clear h
  have b0 : Below w.heap.size w (w.alloc (.cells #[.int .i64 0, .int .i64 0, .int .i64 0] 33)) := (Below.refl _ _).alloc (Nat.le_refl _) _
  obtain ⟨xc, fc⟩ := balloc3 w (0, 0, 0)
  have X0 := hid xc; have F0 := hid fc
  have C0 := hid (H.out.below b0)
  have G0 : Hid (w.grownBy (w.alloc (.cells #[.int .i64 0, .int .i64 0, .int .i64 0] 33)) (some b)) := only_of_below b0
  clear b0 xc fc H
  go_enter Try.func42, Try.ntmps42
  go_wp2_with fail
  refine (rate_any B b N _ C0.out (by omega)).mono ?_
  rintro e w1 ⟨r, d, rfl, hd, c1, g1⟩
  have hs1 : w.heap.size + 1 ≤ w1.heap.size := by have := g1.size; simpa using this
  have e1 := g1.block w.heap.size (by simp) (by intro e; cases e; omega)
  have X1 := hid (X0.out.of_block e1); have F1 := hid (F0.out.of_block e1)
  have C1 := hid c1; have G1 := hid (only_trans G0.out g1); clear c1 g1 X0 F0 C0 G0 e1
  go_wp2_with fail
  refine (pick_any B b (N + 20) 30 _ C1.out (by omega) (by omega)).mono ?_
  rintro e w2 ⟨q, hq, rfl, c2, g2⟩
  have hs2 : w.heap.size + 1 ≤ w2.heap.size := by have := g2.size; omega
  have e2 := g2.block w.heap.size (by omega) (by intro e; cases e; omega)
  have X2 := hid (X1.out.of_block e2); have F2 := hid (F1.out.of_block e2)
  have C2 := hid c2; have G2 := hid (only_trans G1.out g2); clear c2 g2 X1 F1 C1 G1 e2
  obtain ⟨W, hW⟩ : ∃ W, W = w2.alloc (.cells #[.int .i64 r, .int .i64 d, .int .i64 q] 33) := ⟨_, rfl⟩
  have bW : Below w2.heap.size w2 W := by rw [hW]; exact (Below.refl _ _).alloc (Nat.le_refl _) _
  obtain ⟨y, fy⟩ : BkCells W w2.heap.size 0 (r, d, (q : Int)) ∧ BkFree W w2.heap.size 0 := by rw [hW]; exact balloc3 w2 (r, d, q)
  have Y := hid y; have FY := hid fy
  have X3 := hid (X2.out.below bW X2.out.lt); have F3 := hid (F2.out.below bW X2.out.lt)
  have C3 := hid (C2.out.below bW); have G3 := hid (only_then G2.out (bW.mono (by omega)))
  have hsW : w2.heap.size + 1 ≤ W.heap.size := by rw [hW]; simp
  have HW := hid hW
  clear hW bW y fy X2 F2 C2 G2
  have hend : ∀ (W' : World) (has : Int), BkCells W' w.heap.size 0 (0, 0, 0) → Cur B W' b (N + 30) → w.grownBy W' (some b) → ∀ (tmps : Array Value), tmps[2]?.getD undef = .pointer (some ⟨w.heap.size, 0, none⟩) →
      bodyPost Try.prog Try.f42 (fun e w' => ∃ x : BkEl, e = .returned (.agg #[.int .i64 x.1, .int .i64 x.2.1, .int .i64 x.2.2]) ∧ (0 ≤ x.2.1 ∧ x.2.1 ≤ 61) ∧ Cur B w' b (N + 40) ∧ w.grownBy w' (some b)) .ret { tmps := tmps, defers := [] } (bput3 W' w.heap.size 0 (r, d, has)) := by
    intro W' has hx hc hg tmps ht
    refine bucket_ret _ _ _ (z := (0, 0, 0)) hx ht ⟨(r, d, has), rfl, hd, ?_, ?_⟩
    · exact (hc.mono (by omega)).under hbw (by omega) (bbelow_put3 (Below.refl w.heap.size W') (Nat.le_refl _) 0 (_, _, _))
    · exact only_then hg (bbelow_put3 (Below.refl w.heap.size W') (Nat.le_refl _) 0 (_, _, _))
  have HE := hid hend
  clear hend
  obtain rfl := HW.out
  by_cases hqd : d < (q : Int)
  · have dq : decide (d < (q : Int)) = true := by simpa using hqd
    obtain ⟨y0, y1, y2⟩ := Y.out
    simp only [Nat.zero_add] at y1 y2
    go_wp2_with fail
    refine (one_any B b (N + 20 + 2) 12 _ C3.out (by omega) (by omega)).mono ?_
    rintro e w4 ⟨t4, rfl, c4, g4⟩
    have hs4 : w2.heap.size + 1 ≤ w4.heap.size := by have := g4.size; omega
    have ea := g4.block w.heap.size (by omega) (by intro e; cases e; omega)
    have eb := g4.block w2.heap.size (by omega) (by intro e; cases e; have := hbw; omega)
    have X4 := hid (X3.out.of_block ea); have F4 := hid (F3.out.of_block ea)
    have Y4 := hid (Y.out.of_block eb); have FY4 := hid (FY.out.of_block eb)
    have C4 := hid (c4.mono (show N + 20 + 2 + 2 ≤ N + 30 by omega)); have G4 := hid (only_trans G3.out g4)
    clear c4 g4 X3 F3 C3 G3 Y FY ea eb y0 y1 y2
    obtain ⟨y0, y1, y2⟩ := Y4.out
    obtain ⟨g0, g1, g2⟩ := FY4.out
    obtain ⟨x0, x1, x2⟩ := X4.out
    obtain ⟨f0, f1, f2⟩ := F4.out
    simp only [Nat.zero_add] at y1 y2 g1 g2 x1 x2 f1 f2
    cases t4
    · have hne : w2.heap.size ≠ w.heap.size := by omega
      have X5 : Hid (BkCells (w4.setCell ⟨w2.heap.size, 2, none⟩ (.int .i64 d)) w.heap.size 0 (0, 0, 0)) := X4.out.of_block (Below.heap_setCell _ _ _ _ (by show w.heap.size ≠ w2.heap.size; omega))
      have F5 : Hid (BkFree (w4.setCell ⟨w2.heap.size, 2, none⟩ (.int .i64 d)) w.heap.size 0) := F4.out.of_block (Below.heap_setCell _ _ _ _ (by show w.heap.size ≠ w2.heap.size; omega))
      have B5 : Below w2.heap.size w4 (w4.setCell ⟨w2.heap.size, 2, none⟩ (.int .i64 d)) := (Below.refl w2.heap.size w4).setCell (by show w2.heap.size ≤ w2.heap.size; exact Nat.le_refl _) _
      have C5 := hid (C4.out.under (show b < w2.heap.size by omega) (by omega) B5)
      have G5 := hid (only_then G4.out (B5.mono (by omega)))
      clear B5 x0 x1 x2 f0 f1 f2
      obtain ⟨x0, x1, x2⟩ := X5.out
      obtain ⟨f0, f1, f2⟩ := F5.out
      simp only [Nat.zero_add] at x1 x2 f1 f2
      have z0 : (w4.setCell ⟨w2.heap.size, 2, none⟩ (.int .i64 d)).cell? ⟨w2.heap.size, 0, none⟩ = some (.int .i64 r) := by rw [World.cell?_setCell_other _ _ _ _ (by simp)]; exact y0
      have z1 : (w4.setCell ⟨w2.heap.size, 2, none⟩ (.int .i64 d)).cell? ⟨w2.heap.size, 1, none⟩ = some (.int .i64 d) := by rw [World.cell?_setCell_other _ _ _ _ (by simp)]; exact y1
      have z2 : (w4.setCell ⟨w2.heap.size, 2, none⟩ (.int .i64 d)).cell? ⟨w2.heap.size, 2, none⟩ = some (.int .i64 d) := World.cell?_setCell_same _ _ _ y2
      go_wp2
      exact HE.out _ d X5.out C5.out G5.out _ rfl
    · go_wp2
      exact HE.out _ q X4.out C4.out G4.out _ rfl
  · have dq : decide (d < (q : Int)) = false := by simpa using hqd
    obtain ⟨y0, y1, y2⟩ := Y.out
    obtain ⟨g0, g1, g2⟩ := FY.out
    obtain ⟨x0, x1, x2⟩ := X3.out
    obtain ⟨f0, f1, f2⟩ := F3.out
    simp only [Nat.zero_add] at y1 y2 g1 g2 x1 x2 f1 f2
    go_wp2
    exact HE.out _ q X3.out (C3.out.mono (by omega)) G3.out _ rfl
theorem CodeOk.later7 {w w' : World} {v : Value} (h : CodeOk w.heap.size w v) (hb : Below w.heap.size w w') : CodeOk w'.heap.size w' v := by
  obtain ⟨a, len, cap, rfl, hl, hx⟩ := h.below hb
  refine ⟨a, len, cap, rfl, hl, ?_⟩
  rcases hx with hx | ⟨cb, off, rfl, hlt, hc⟩
  · exact .inl hx
  · exact .inr ⟨cb, off, rfl, Nat.lt_of_lt_of_le hlt hb.size, hc⟩
theorem drawGoodB_ret {H : Nat} {W : World} {z : BkEl} {tmps : Array Value} {R : Ending → World → Prop} (x0 x1 x2 : Int) (hc : BkCells W H 0 z) (ht : tmps[2]?.getD undef = .pointer (some ⟨H, 0, none⟩)) (hR : R (.returned (.agg #[.int .i64 x0, .int .i64 x1, .int .i64 x2])) (bput3 W H 0 (x0, x1, x2))) :
    bodyPost Try.prog Try.f39 R .ret { tmps := tmps, defers := [] } (bput3 W H 0 (x0, x1, x2)) := by
  obtain ⟨e0, e1, e2⟩ := bput3_same hc (x0, x1, x2)
  refine bodyPost_ret (v := .agg #[.int .i64 x0, .int .i64 x1, .int .i64 x2]) ?_ rfl hR
  simp only [Nat.zero_add] at e1 e2
  simp [results, Try.results39, go_sem, ht, e0, e1, e2]
set_option maxHeartbeats 2000000 in
theorem drawGoodB_any (v : Value) (w : World) (h : CodeOk w.heap.size w v) :
    Calls Try.prog 39 #[v] w fun e w' => ∃ x : BkEl, e = .returned (.agg #[.int .i64 x.1, .int .i64 x.2.1, .int .i64 x.2.2]) ∧ Below w.heap.size w w' := by
  have b0 : Below w.heap.size w (w.alloc (.cells #[.int .i64 0, .int .i64 0, .int .i64 0] 33)) := (Below.refl _ _).alloc (Nat.le_refl _) _
  obtain ⟨xc, fc⟩ := balloc3 w (0, 0, 0)
  have X0 := hid xc; have F0 := hid fc
  have B0 := hid b0
  have K := hid (h.later7 b0)
  have KC : Hid (Cur (w.heap.size + 1) ((w.alloc (.cells #[.int .i64 0, .int .i64 0, .int .i64 0] 33)).alloc (.cells #[v, .int .i64 0, .int .u64 0] 56)) (w.heap.size + 1) 0) := by
    have := cur_new _ _ K.out
    rw [World.size_alloc] at this
    exact this
  obtain ⟨a, len, cap, rfl, hlen, hx⟩ := h
  clear hlen hx b0 xc fc
  go_enter Try.func39, Try.ntmps39
  go_wp2_with fail
  refine (bucket_any (w.heap.size + 1) (w.heap.size + 1) 0 _ KC.out (by omega)).mono ?_
  rintro e w1 ⟨x, rfl, _, c1, g1⟩
  have b1 : Below (w.heap.size + 1) (w.alloc (.cells #[.int .i64 0, .int .i64 0, .int .i64 0] 33)) w1 := ((Below.refl (w.heap.size + 1) _).alloc (by rw [World.size_alloc]; exact Nat.le_refl _) _).trans (only_below g1 (Nat.le_refl _) (by rw [World.size_alloc, World.size_alloc]; omega))
  clear c1 g1
  have X1 := hid (X0.out.below b1 (Nat.lt_succ_self _)); have F1 := hid (F0.out.below b1 (Nat.lt_succ_self _))
  have B1 := hid (B0.out.trans (b1.mono (Nat.le_succ _)))
  clear b1 X0 F0 K B0
  obtain ⟨x0, x1, x2⟩ := X1.out
  obtain ⟨f0, f1, f2⟩ := F1.out
  simp only [Nat.zero_add] at x1 x2 f1 f2
  go_wp2
  exact drawGoodB_ret _ _ _ (z := (0, 0, 0)) X1.out rfl ⟨x, rfl, bbelow_put3 B1.out (Nat.le_refl _) 0 x⟩
theorem drawTickB_ret {H : Nat} {W : World} {z : BkEl} {tmps : Array Value} {R : Ending → World → Prop} (x0 x1 x2 : Int) (hc : BkCells W H 0 z) (ht : tmps[2]?.getD undef = .pointer (some ⟨H, 0, none⟩)) (hR : R (.returned (.agg #[.int .i64 x0, .int .i64 x1, .int .i64 x2])) (bput3 W H 0 (x0, x1, x2))) :
    bodyPost Try.prog Try.f12 R .ret { tmps := tmps, defers := [] } (bput3 W H 0 (x0, x1, x2)) := by
  obtain ⟨e0, e1, e2⟩ := bput3_same hc (x0, x1, x2)
  refine bodyPost_ret (v := .agg #[.int .i64 x0, .int .i64 x1, .int .i64 x2]) ?_ rfl hR
  simp only [Nat.zero_add] at e1 e2
  simp [results, Try.results12, go_sem, ht, e0, e1, e2]
set_option maxHeartbeats 2000000 in
theorem drawTickB_any (v : Value) (w : World) (h : CodeOk w.heap.size w v) :
    Calls Try.prog 12 #[v] w fun e w' => ∃ x : BkEl, e = .returned (.agg #[.int .i64 x.1, .int .i64 x.2.1, .int .i64 x.2.2]) ∧ Below w.heap.size w w' := by
  have b0 : Below w.heap.size w (w.alloc (.cells #[.int .i64 0, .int .i64 0, .int .i64 0] 33)) := (Below.refl _ _).alloc (Nat.le_refl _) _
  obtain ⟨xc, fc⟩ := balloc3 w (0, 0, 0)
  have X0 := hid xc; have F0 := hid fc
  have B0 := hid b0
  have K := hid (h.later7 b0)
  obtain ⟨a, len, cap, rfl, hlen, hx⟩ := h
  clear hlen hx b0 xc fc
  go_enter Try.func12, Try.ntmps12
  go_wp2_with fail
  refine (drawGoodB_any _ _ K.out).mono ?_
  rintro e w1 ⟨x, rfl, b1⟩
  have X1 := hid (X0.out.below b1 X0.out.lt); have F1 := hid (F0.out.below b1 X0.out.lt)
  have B1 := hid (B0.out.trans (b1.mono B0.out.size))
  clear b1 X0 F0 K B0
  obtain ⟨x0, x1, x2⟩ := X1.out
  obtain ⟨f0, f1, f2⟩ := F1.out
  simp only [Nat.zero_add] at x1 x2 f1 f2
  go_wp2
  exact drawTickB_ret _ _ _ (z := (0, 0, 0)) X1.out rfl ⟨x, rfl, bbelow_put3 B1.out (Nat.le_refl _) 0 x⟩
set_option maxHeartbeats 2000000 in
theorem drawNewB_any (v : Value) (w : World) (h : CodeOk w.heap.size w v) :
    Calls Try.prog 18 #[v] w fun e w' => ∃ r d : Int, e = .returned (.tuple #[.int .i64 r, .int .i64 d]) ∧ Below w.heap.size w w' := by
  have H := hid (cur_new w v h)
  obtain ⟨a, len, cap, rfl, hlen, hx⟩ := h
  clear hlen hx
  go_enter Try.func18, Try.ntmps18
  go_wp2_with fail
  refine (rate_any w.heap.size w.heap.size 0 _ H.out (by omega)).mono ?_
  rintro e w1 ⟨r, d, rfl, _, c1, g1⟩
  have G1 := hid g1; clear c1 g1 H
  go_wp2
  go_ret2
  exact ⟨_, _, rfl, ((Below.refl _ _).alloc (Nat.le_refl _) _).trans (only_below G1.out (Nat.le_refl _) (by simp))⟩
end Go.Proofs.Ytcieefggijjekac
