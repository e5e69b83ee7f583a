/-
  spec.l15Take: one way of it.
-/
import Derived.Test.YtdlkilacnnjglaaSWr15
import Derived.Test.YtdlkilacnnjglaaSOp15
import Derived.Deep.DeepCutAuto
namespace Go.Proofs.Ytdlkilacnnjglaa
open Go.RowKit

set_option maxRecDepth 100000 in
set_option maxHeartbeats 8000000 in
theorem stk_ask (L : Nat) (x1 x2 z0 z1 z2 z3 z4 z5 z6 z7 : Int) (L8 L9 L10 : List HeEl) (v8 v9 v10 : Value) (w : World) (hL : L ≤ w.heap.size) (hU : RowsU L w v8 v9 v10 L8 L9 L10) (y1 : Int) (hy1 : y1 = z7 + 1) (hy : 0 ≤ z7 ∧ z7 ≤ 1000) (hs1 : (z1 == 2) = false) (hs7 : (z7 == 1000) = false) :
    Calls Try.prog 88 #[.agg #[.int .i64 z0, .int .i64 z1, .int .i64 z2, .int .i64 z3, .int .i64 z4, .int .i64 z5, .int .i64 z6, .int .i64 z7, v8, v9, v10], .agg #[.int .i64 1, .int .i64 x1, .int .i64 x2]] w fun e w' => ∃ u, e = .returned u ∧ Moved L w v8 v9 v10 (wrG ⟨z0, 1, z2, y1, x1, z5, z6, y1, L8, L9, L10⟩ (2, x1, y1)) u w' := by
  have hw : IntKind.i64.wrap (z7 + 1) = y1 := by rw [IntKind.wrap_i64]; omega
  clear hy1 hy
  obtain ⟨E, hE2⟩ : ∃ E, wrG ⟨z0, 1, z2, y1, x1, z5, z6, y1, L8, L9, L10⟩ (2, x1, y1) = E := ⟨_, rfl⟩
  rw [hE2]
  have HE := hid hE2
  clear hE2
  obtain ⟨a8, c8, a9, c9, a10, c10, rfl, rfl, rfl⟩ := hU.form
  obtain ⟨W, hW⟩ : ∃ W, W = ((w.alloc (.cells #[.int .i64 z0, .int .i64 z1, .int .i64 z2, .int .i64 z3, .int .i64 z4, .int .i64 z5, .int .i64 z6, .int .i64 z7, .slice a8 L8.length c8, .slice a9 L9.length c9, .slice a10 L10.length c10] 49)).alloc (.cells #[.int .i64 1, .int .i64 x1, .int .i64 x2] 116)).alloc (.cells #[.int .i64 0, .int .i64 0, .int .i64 0, .int .i64 0, .int .i64 0, .int .i64 0, .int .i64 0, .int .i64 0, .slice none 0 0, .slice none 0 0, .slice none 0 0] 49) := ⟨_, rfl⟩
  have HB : Hid (Boxes3 w W ⟨z0, z1, z2, z3, z4, z5, z6, z7, L8, L9, L10⟩ (.slice a8 L8.length c8) (.slice a9 L9.length c9) (.slice a10 L10.length c10) [.int .i64 1, .int .i64 x1, .int .i64 x2]) := by show Boxes3 _ _ _ _ _ _ _; rw [hW]; exact boxes3 w ⟨z0, z1, z2, z3, z4, z5, z6, z7, L8, L9, L10⟩ (.slice a8 L8.length c8) (.slice a9 L9.length c9) (.slice a10 L10.length c10) [.int .i64 1, .int .i64 x1, .int .i64 x2] 116 (by simp)
  have UW := hid (hU.below HB.out.b rfl)
  have HU := hid hU
  have HW := hid hW
  have HBS := hid HB.out.s
  clear hW hU
  have GB : Hid (BoxL W w.heap.size [.int .i64 z0, .int .i64 z1, .int .i64 z2, .int .i64 z3, .int .i64 z4, .int .i64 z5, .int .i64 z6, .int .i64 z7, .slice a8 L8.length c8, .slice a9 L9.length c9, .slice a10 L10.length c10]) := HB.out.g
  have RB := hid HB.out.r
  have XB := hid HB.out.x
  have MM : Hid (Mv w W (.slice a8 L8.length c8) (.slice a9 L9.length c9) (.slice a10 L10.length c10) (.slice a8 L8.length c8) (.slice a9 L9.length c9) (.slice a10 L10.length c10)) := (Mv.refl w _ _ _).old (P := fun _ => False) (But.of HB.out.b) fun _ h => h.elim
  have HBL : Hid (w.heap.size + 3 ≤ W.heap.size) := by show _ ≤ _; have := HBS.out; omega
  have HXB : Hid (¬ Bk (.slice a8 L8.length c8) (.slice a9 L9.length c9) (.slice a10 L10.length c10) (w.heap.size + 1)) := HU.out.notBk (by omega)
  have HNB : Hid (¬ Bk (.slice a8 L8.length c8) (.slice a9 L9.length c9) (.slice a10 L10.length c10) w.heap.size) := HU.out.notBk (Nat.le_refl _)
  have HNR : Hid (¬ Bk (.slice a8 L8.length c8) (.slice a9 L9.length c9) (.slice a10 L10.length c10) (w.heap.size + 2)) := HU.out.notBk (by omega)
  obtain ⟨q0, q1, q2, q3, q4, q5, q6, q7, q8, q9, q10⟩ := GB.out.eleven
  obtain ⟨g0, g1, g2, g3, g4, g5, g6, g7, g8, g9, g10⟩ := GB.out.frozen11
  obtain ⟨r0, r1, r2, r3, r4, r5, r6, r7, r8, r9, r10⟩ := RB.out.eleven
  obtain ⟨f0, f1, f2, f3, f4, f5, f6, f7, f8, f9, f10⟩ := RB.out.frozen11
  obtain ⟨p0, p1, p2⟩ := XB.out.three
  go_enter Try.func88, Try.ntmps88
  go_upto_region 1 with fail
  rw [← HW.out]
  clear HW
  have HN8 : Hid ((Value.slice a8 L8.length c8).ownBlock ≠ some w.heap.size) := fun e => HNB.out (.inl e)
  have HN9 : Hid ((Value.slice a9 L9.length c9).ownBlock ≠ some w.heap.size) := fun e => HNB.out (.inr (.inl e))
  have HN10 : Hid ((Value.slice a10 L10.length c10).ownBlock ≠ some w.heap.size) := fun e => HNB.out (.inr (.inr e))
  replace MM := hid (MM.out.set (j := 7) (b := w.heap.size) (Nat.le_refl _) (.int .i64 y1))
  replace UW := hid (UW.out.set (j := 7) (b := w.heap.size) (.int .i64 y1) HN8.out HN9.out HN10.out)
  replace RB : Hid (BoxL (W.setCell ⟨w.heap.size, 7, none⟩ (.int .i64 y1)) (w.heap.size + 2) zeroC) := RB.out.but ((But.refl _ _).setCell (P := fun k => k = w.heap.size) (p := ⟨w.heap.size, 7, none⟩) rfl _) (by have := HBS.out; omega)
  replace XB : Hid (BoxL (W.setCell ⟨w.heap.size, 7, none⟩ (.int .i64 y1)) (w.heap.size + 1) [.int .i64 1, .int .i64 x1, .int .i64 x2]) := XB.out.but ((But.refl _ _).setCell (P := fun k => k = w.heap.size) (p := ⟨w.heap.size, 7, none⟩) rfl _) (by have := HBS.out; omega)
  replace GB : Hid (BoxL (W.setCell ⟨w.heap.size, 7, none⟩ (.int .i64 y1)) w.heap.size [.int .i64 z0, .int .i64 z1, .int .i64 z2, .int .i64 z3, .int .i64 z4, .int .i64 z5, .int .i64 z6, .int .i64 y1, .slice a8 L8.length c8, .slice a9 L9.length c9, .slice a10 L10.length c10]) := GB.out.set 7 (by simp) _
  replace MM := hid (MM.out.set (j := 1) (b := w.heap.size) (Nat.le_refl _) (.int .i64 1))
  replace UW := hid (UW.out.set (j := 1) (b := w.heap.size) (.int .i64 1) HN8.out HN9.out HN10.out)
  replace RB : Hid (BoxL ((W.setCell ⟨w.heap.size, 7, none⟩ (.int .i64 y1)).setCell ⟨w.heap.size, 1, none⟩ (.int .i64 1)) (w.heap.size + 2) zeroC) := RB.out.but ((But.refl _ _).setCell (P := fun k => k = w.heap.size) (p := ⟨w.heap.size, 1, none⟩) rfl _) (by have := HBS.out; omega)
  replace XB : Hid (BoxL ((W.setCell ⟨w.heap.size, 7, none⟩ (.int .i64 y1)).setCell ⟨w.heap.size, 1, none⟩ (.int .i64 1)) (w.heap.size + 1) [.int .i64 1, .int .i64 x1, .int .i64 x2]) := XB.out.but ((But.refl _ _).setCell (P := fun k => k = w.heap.size) (p := ⟨w.heap.size, 1, none⟩) rfl _) (by have := HBS.out; omega)
  replace GB : Hid (BoxL ((W.setCell ⟨w.heap.size, 7, none⟩ (.int .i64 y1)).setCell ⟨w.heap.size, 1, none⟩ (.int .i64 1)) w.heap.size [.int .i64 z0, .int .i64 1, .int .i64 z2, .int .i64 z3, .int .i64 z4, .int .i64 z5, .int .i64 z6, .int .i64 y1, .slice a8 L8.length c8, .slice a9 L9.length c9, .slice a10 L10.length c10]) := GB.out.set 1 (by simp) _
  replace MM := hid (MM.out.set (j := 4) (b := w.heap.size) (Nat.le_refl _) (.int .i64 x1))
  replace UW := hid (UW.out.set (j := 4) (b := w.heap.size) (.int .i64 x1) HN8.out HN9.out HN10.out)
  replace RB : Hid (BoxL (((W.setCell ⟨w.heap.size, 7, none⟩ (.int .i64 y1)).setCell ⟨w.heap.size, 1, none⟩ (.int .i64 1)).setCell ⟨w.heap.size, 4, none⟩ (.int .i64 x1)) (w.heap.size + 2) zeroC) := RB.out.but ((But.refl _ _).setCell (P := fun k => k = w.heap.size) (p := ⟨w.heap.size, 4, none⟩) rfl _) (by have := HBS.out; omega)
  replace XB : Hid (BoxL (((W.setCell ⟨w.heap.size, 7, none⟩ (.int .i64 y1)).setCell ⟨w.heap.size, 1, none⟩ (.int .i64 1)).setCell ⟨w.heap.size, 4, none⟩ (.int .i64 x1)) (w.heap.size + 1) [.int .i64 1, .int .i64 x1, .int .i64 x2]) := XB.out.but ((But.refl _ _).setCell (P := fun k => k = w.heap.size) (p := ⟨w.heap.size, 4, none⟩) rfl _) (by have := HBS.out; omega)
  replace GB : Hid (BoxL (((W.setCell ⟨w.heap.size, 7, none⟩ (.int .i64 y1)).setCell ⟨w.heap.size, 1, none⟩ (.int .i64 1)).setCell ⟨w.heap.size, 4, none⟩ (.int .i64 x1)) w.heap.size [.int .i64 z0, .int .i64 1, .int .i64 z2, .int .i64 z3, .int .i64 x1, .int .i64 z5, .int .i64 z6, .int .i64 y1, .slice a8 L8.length c8, .slice a9 L9.length c9, .slice a10 L10.length c10]) := GB.out.set 4 (by simp) _
  replace MM := hid (MM.out.set (j := 3) (b := w.heap.size) (Nat.le_refl _) (.int .i64 y1))
  replace UW := hid (UW.out.set (j := 3) (b := w.heap.size) (.int .i64 y1) HN8.out HN9.out HN10.out)
  replace RB : Hid (BoxL ((((W.setCell ⟨w.heap.size, 7, none⟩ (.int .i64 y1)).setCell ⟨w.heap.size, 1, none⟩ (.int .i64 1)).setCell ⟨w.heap.size, 4, none⟩ (.int .i64 x1)).setCell ⟨w.heap.size, 3, none⟩ (.int .i64 y1)) (w.heap.size + 2) zeroC) := RB.out.but ((But.refl _ _).setCell (P := fun k => k = w.heap.size) (p := ⟨w.heap.size, 3, none⟩) rfl _) (by have := HBS.out; omega)
  replace XB : Hid (BoxL ((((W.setCell ⟨w.heap.size, 7, none⟩ (.int .i64 y1)).setCell ⟨w.heap.size, 1, none⟩ (.int .i64 1)).setCell ⟨w.heap.size, 4, none⟩ (.int .i64 x1)).setCell ⟨w.heap.size, 3, none⟩ (.int .i64 y1)) (w.heap.size + 1) [.int .i64 1, .int .i64 x1, .int .i64 x2]) := XB.out.but ((But.refl _ _).setCell (P := fun k => k = w.heap.size) (p := ⟨w.heap.size, 3, none⟩) rfl _) (by have := HBS.out; omega)
  replace GB : Hid (BoxL ((((W.setCell ⟨w.heap.size, 7, none⟩ (.int .i64 y1)).setCell ⟨w.heap.size, 1, none⟩ (.int .i64 1)).setCell ⟨w.heap.size, 4, none⟩ (.int .i64 x1)).setCell ⟨w.heap.size, 3, none⟩ (.int .i64 y1)) w.heap.size [.int .i64 z0, .int .i64 1, .int .i64 z2, .int .i64 y1, .int .i64 x1, .int .i64 z5, .int .i64 z6, .int .i64 y1, .slice a8 L8.length c8, .slice a9 L9.length c9, .slice a10 L10.length c10]) := GB.out.set 3 (by simp) _
  go_wp2_with fail
  refine (l15Write_E L ⟨z0, 1, z2, y1, x1, z5, z6, y1, L8, L9, L10⟩ (2, x1, y1) E _ _ _ _ (Nat.le_trans hL MM.out.but.size) UW.out HE.out).mono ?_
  rintro e w2 ⟨u, rfl, u8, u9, u10, rfl, U2, M2⟩
  obtain ⟨b8, d8, b9, d9, b10, d10, rfl, rfl, rfl⟩ := U2.form
  clear q0 q1 q2 q3 q4 q5 q6 q7 q8 q9 q10 g0 g1 g2 g3 g4 g5 g6 g7 g8 g9 g10 r0 r1 r2 r3 r4 r5 r6 r7 r8 r9 r10 f0 f1 f2 f3 f4 f5 f6 f7 f8 f9 f10 p0 p1 p2
  have hl2 := RB.out.lt
  replace RB := hid (RB.out.mv M2 HNR.out)
  replace HNR := hid (M2.notBk HNR.out hl2)
  replace MM := hid (MM.out.trans M2)
  replace UW := hid U2
  clear U2 M2 hl2
  obtain ⟨r0, r1, r2, r3, r4, r5, r6, r7, r8, r9, r10⟩ := RB.out.eleven
  obtain ⟨f0, f1, f2, f3, f4, f5, f6, f7, f8, f9, f10⟩ := RB.out.frozen11
  have LF := gr_leaf (D := E) RB.out UW.out MM.out (b := (w.heap.size + 2)) (by omega) HNR.out
  have HL := hid LF.1
  obtain ⟨t0, t1, t2, t3, t4, t5, t6, t7, t8, t9, t10⟩ := LF.2.eleven
  clear LF
  go_wp2
  exact bodyPost_ret (v := grV E (.slice b8 E.f8.length d8) (.slice b9 E.f9.length d9) (.slice b10 E.f10.length d10)) (by simp [results, Try.results88, go_sem, t0, t1, t2, t3, t4, t5, t6, t7, t8, t9, t10]) rfl ⟨_, rfl, _, _, _, rfl, HL.out⟩
end Go.Proofs.Ytdlkilacnnjglaa
