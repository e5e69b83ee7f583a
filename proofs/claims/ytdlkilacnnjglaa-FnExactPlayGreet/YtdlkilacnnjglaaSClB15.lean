/-
  spec.l15CloseB: B is closed.
  spec.l15Step: one way of it.
  spec.l15Step: one way of it.
-/
import Derived.Test.YtdlkilacnnjglaaPut11
import Derived.Deep.DeepCutAuto
import Derived.Test.YtdlkilacnnjglaaSWr15
namespace Go.Proofs.Ytdlkilacnnjglaa
open Go.RowKit

set_option maxRecDepth 100000 in
set_option maxHeartbeats 8000000 in
theorem l15CloseB_any (L : Nat) (D : GrD) (v8 v9 v10 : Value) (w : World) (hU : RowsU L w v8 v9 v10 D.f8 D.f9 D.f10) :
    Calls Try.prog 87 #[grV D v8 v9 v10] w fun e w' => ∃ u, e = .returned u ∧ Moved L w v8 v9 v10 (clB D) u w' := by
  obtain ⟨z0, z1, z2, z3, z4, z5, z6, z7, L8, L9, L10⟩ := D
  unfold clB
  simp only at hU ⊢
  obtain ⟨a8, c8, a9, c9, a10, c10, rfl, rfl, rfl⟩ := hU.form
  obtain ⟨W, hW⟩ : ∃ W, W = (w.alloc (.cells #[.int .i64 z0, .int .i64 z1, .int .i64 z2, .int .i64 z3, .int .i64 z4, .int .i64 z5, .int .i64 z6, .int .i64 z7, .slice a8 L8.length c8, .slice a9 L9.length c9, .slice a10 L10.length c10] 49)).alloc (.cells #[.int .i64 0, .int .i64 0, .int .i64 0, .int .i64 0, .int .i64 0, .int .i64 0, .int .i64 0, .int .i64 0, .slice none 0 0, .slice none 0 0, .slice none 0 0] 49) := ⟨_, rfl⟩
  have HB : Hid (Boxes2 w W ⟨z0, z1, z2, z3, z4, z5, z6, z7, L8, L9, L10⟩ (.slice a8 L8.length c8) (.slice a9 L9.length c9) (.slice a10 L10.length c10)) := by show Boxes2 _ _ _ _ _ _; rw [hW]; exact boxes2 w ⟨z0, z1, z2, z3, z4, z5, z6, z7, L8, L9, L10⟩ (.slice a8 L8.length c8) (.slice a9 L9.length c9) (.slice a10 L10.length c10)
  have UW := hid (hU.below HB.out.b rfl)
  have HU := hid hU
  have HW := hid hW
  have HBS := hid HB.out.s
  clear hW hU
  have GB : Hid (BoxL W w.heap.size [.int .i64 z0, .int .i64 z1, .int .i64 z2, .int .i64 z3, .int .i64 z4, .int .i64 z5, .int .i64 z6, .int .i64 z7, .slice a8 L8.length c8, .slice a9 L9.length c9, .slice a10 L10.length c10]) := HB.out.g
  have RB := hid HB.out.r
  have MM : Hid (Mv w W (.slice a8 L8.length c8) (.slice a9 L9.length c9) (.slice a10 L10.length c10) (.slice a8 L8.length c8) (.slice a9 L9.length c9) (.slice a10 L10.length c10)) := (Mv.refl w _ _ _).old (P := fun _ => False) (But.of HB.out.b) fun _ h => h.elim
  have HNB : Hid (¬ Bk (.slice a8 L8.length c8) (.slice a9 L9.length c9) (.slice a10 L10.length c10) w.heap.size) := HU.out.notBk (Nat.le_refl _)
  have HNR : Hid (¬ Bk (.slice a8 L8.length c8) (.slice a9 L9.length c9) (.slice a10 L10.length c10) (w.heap.size + 1)) := HU.out.notBk (by omega)
  obtain ⟨q0, q1, q2, q3, q4, q5, q6, q7, q8, q9, q10⟩ := GB.out.eleven
  obtain ⟨g0, g1, g2, g3, g4, g5, g6, g7, g8, g9, g10⟩ := GB.out.frozen11
  obtain ⟨r0, r1, r2, r3, r4, r5, r6, r7, r8, r9, r10⟩ := RB.out.eleven
  obtain ⟨f0, f1, f2, f3, f4, f5, f6, f7, f8, f9, f10⟩ := RB.out.frozen11
  go_enter Try.func87, Try.ntmps87
  go_upto_region 1 with fail
  rw [← HW.out]
  clear HW
  have HN8 : Hid ((Value.slice a8 L8.length c8).ownBlock ≠ some w.heap.size) := fun e => HNB.out (.inl e)
  have HN9 : Hid ((Value.slice a9 L9.length c9).ownBlock ≠ some w.heap.size) := fun e => HNB.out (.inr (.inl e))
  have HN10 : Hid ((Value.slice a10 L10.length c10).ownBlock ≠ some w.heap.size) := fun e => HNB.out (.inr (.inr e))
  replace MM := hid (MM.out.set (j := 1) (b := w.heap.size) (Nat.le_refl _) (.int .i64 0))
  replace UW := hid (UW.out.set (j := 1) (b := w.heap.size) (.int .i64 0) HN8.out HN9.out HN10.out)
  replace RB : Hid (BoxL (W.setCell ⟨w.heap.size, 1, none⟩ (.int .i64 0)) (w.heap.size + 1) zeroC) := RB.out.but ((But.refl _ _).setCell (P := fun k => k = w.heap.size) (p := ⟨w.heap.size, 1, none⟩) rfl _) (by have := HBS.out; omega)
  replace GB : Hid (BoxL (W.setCell ⟨w.heap.size, 1, none⟩ (.int .i64 0)) w.heap.size [.int .i64 z0, .int .i64 0, .int .i64 z2, .int .i64 z3, .int .i64 z4, .int .i64 z5, .int .i64 z6, .int .i64 z7, .slice a8 L8.length c8, .slice a9 L9.length c9, .slice a10 L10.length c10]) := GB.out.set 1 (by simp) _
  replace MM := hid (MM.out.set (j := 4) (b := w.heap.size) (Nat.le_refl _) (.int .i64 0))
  replace UW := hid (UW.out.set (j := 4) (b := w.heap.size) (.int .i64 0) HN8.out HN9.out HN10.out)
  replace RB : Hid (BoxL ((W.setCell ⟨w.heap.size, 1, none⟩ (.int .i64 0)).setCell ⟨w.heap.size, 4, none⟩ (.int .i64 0)) (w.heap.size + 1) zeroC) := RB.out.but ((But.refl _ _).setCell (P := fun k => k = w.heap.size) (p := ⟨w.heap.size, 4, none⟩) rfl _) (by have := HBS.out; omega)
  replace GB : Hid (BoxL ((W.setCell ⟨w.heap.size, 1, none⟩ (.int .i64 0)).setCell ⟨w.heap.size, 4, none⟩ (.int .i64 0)) w.heap.size [.int .i64 z0, .int .i64 0, .int .i64 z2, .int .i64 z3, .int .i64 0, .int .i64 z5, .int .i64 z6, .int .i64 z7, .slice a8 L8.length c8, .slice a9 L9.length c9, .slice a10 L10.length c10]) := GB.out.set 4 (by simp) _
  replace MM := hid (MM.out.set (j := 3) (b := w.heap.size) (Nat.le_refl _) (.int .i64 0))
  replace UW := hid (UW.out.set (j := 3) (b := w.heap.size) (.int .i64 0) HN8.out HN9.out HN10.out)
  replace RB : Hid (BoxL (((W.setCell ⟨w.heap.size, 1, none⟩ (.int .i64 0)).setCell ⟨w.heap.size, 4, none⟩ (.int .i64 0)).setCell ⟨w.heap.size, 3, none⟩ (.int .i64 0)) (w.heap.size + 1) zeroC) := RB.out.but ((But.refl _ _).setCell (P := fun k => k = w.heap.size) (p := ⟨w.heap.size, 3, none⟩) rfl _) (by have := HBS.out; omega)
  replace GB : Hid (BoxL (((W.setCell ⟨w.heap.size, 1, none⟩ (.int .i64 0)).setCell ⟨w.heap.size, 4, none⟩ (.int .i64 0)).setCell ⟨w.heap.size, 3, none⟩ (.int .i64 0)) w.heap.size [.int .i64 z0, .int .i64 0, .int .i64 z2, .int .i64 0, .int .i64 0, .int .i64 z5, .int .i64 z6, .int .i64 z7, .slice a8 L8.length c8, .slice a9 L9.length c9, .slice a10 L10.length c10]) := GB.out.set 3 (by simp) _
  have LF := gr_leaf (D := ⟨z0, 0, z2, 0, 0, z5, z6, z7, L8, L9, L10⟩) RB.out UW.out MM.out (b := (w.heap.size + 1)) (by have := HBS.out; omega) HNR.out
  dsimp only at LF
  have HL := hid LF.1
  obtain ⟨t0, t1, t2, t3, t4, t5, t6, t7, t8, t9, t10⟩ := LF.2.eleven
  clear LF
  go_wp2
  exact bodyPost_ret (v := grV ⟨z0, 0, z2, 0, 0, z5, z6, z7, L8, L9, L10⟩ (.slice a8 L8.length c8) (.slice a9 L9.length c9) (.slice a10 L10.length c10)) (by simp [results, Try.results87, go_sem, t0, t1, t2, t3, t4, t5, t6, t7, t8, t9, t10]) rfl ⟨_, rfl, _, _, _, rfl, HL.out⟩
theorem l15CloseB_L (L : Nat) (z0 z1 z2 z3 z4 z5 z6 z7 : Int) (L8 L9 L10 : List HeEl) (v8 v9 v10 : Value) (w : World) (hU : RowsU L w v8 v9 v10 L8 L9 L10) :
    Calls Try.prog 87 #[.agg #[.int .i64 z0, .int .i64 z1, .int .i64 z2, .int .i64 z3, .int .i64 z4, .int .i64 z5, .int .i64 z6, .int .i64 z7, v8, v9, v10]] w fun e w' => ∃ u8 u9 u10, e = .returned (.agg #[.int .i64 z0, .int .i64 0, .int .i64 z2, .int .i64 0, .int .i64 0, .int .i64 z5, .int .i64 z6, .int .i64 z7, u8, u9, u10]) ∧ RowsU L w' u8 u9 u10 L8 L9 L10 ∧ Mv w w' v8 v9 v10 u8 u9 u10 :=
  (l15CloseB_any L ⟨z0, z1, z2, z3, z4, z5, z6, z7, L8, L9, L10⟩ v8 v9 v10 w hU).mono fun e w' ⟨u, he, u8, u9, u10, hu, U, M⟩ => ⟨u8, u9, u10, by rw [he, hu]; rfl, U, M⟩
end Go.Proofs.Ytdlkilacnnjglaa
namespace Go.Proofs.Ytdlkilacnnjglaa
open Go.RowKit

set_option maxRecDepth 100000 in
set_option maxHeartbeats 8000000 in
theorem sst_forget_no (L : Nat) (x1 z0 z1 z2 z3 z4 z5 z6 z7 : Int) (L8 L9 L10 : List HeEl) (v8 v9 v10 : Value) (w : World) (hL : L ≤ w.heap.size) (hU : RowsU L w v8 v9 v10 L8 L9 L10) (s1 s2 : Bool) (h1 : (x1 != 0) = s1) (h2 : (z1 != 1) = s2) (hc : (s1 || s2) = true) :
    Calls Try.prog 62 #[.agg #[.int .i64 z0, .int .i64 z1, .int .i64 z2, .int .i64 z3, .int .i64 z4, .int .i64 z5, .int .i64 z6, .int .i64 z7, v8, v9, v10], .agg #[.int .i64 5, .int .i64 x1]] w fun e w' => ∃ u, e = .returned (.tuple #[u, .bool false]) ∧ Moved L w v8 v9 v10 ⟨z0, z1, z2, z3, z4, z5, z6, z7, L8, L9, L10⟩ u w' := by
  have HC := hid hc
  clear hc
  cases s1 <;> cases s2
  case false.false => exact absurd HC.out (by decide)
  all_goals
    have _hL := hL
    obtain ⟨a8, c8, a9, c9, a10, c10, rfl, rfl, rfl⟩ := hU.form
    obtain ⟨W, hW⟩ : ∃ W, W = ((w.alloc (.cells #[.int .i64 z0, .int .i64 z1, .int .i64 z2, .int .i64 z3, .int .i64 z4, .int .i64 z5, .int .i64 z6, .int .i64 z7, .slice a8 L8.length c8, .slice a9 L9.length c9, .slice a10 L10.length c10] 49)).alloc (.cells #[.int .i64 5, .int .i64 x1] 91)).alloc (.cells #[.int .i64 0, .int .i64 0, .int .i64 0, .int .i64 0, .int .i64 0, .int .i64 0, .int .i64 0, .int .i64 0, .slice none 0 0, .slice none 0 0, .slice none 0 0] 49) := ⟨_, rfl⟩
    have HB : Hid (Boxes3 w W ⟨z0, z1, z2, z3, z4, z5, z6, z7, L8, L9, L10⟩ (.slice a8 L8.length c8) (.slice a9 L9.length c9) (.slice a10 L10.length c10) [.int .i64 5, .int .i64 x1]) := by show Boxes3 _ _ _ _ _ _ _; rw [hW]; exact boxes3 w ⟨z0, z1, z2, z3, z4, z5, z6, z7, L8, L9, L10⟩ (.slice a8 L8.length c8) (.slice a9 L9.length c9) (.slice a10 L10.length c10) [.int .i64 5, .int .i64 x1] 91 (by simp)
    have UW := hid (hU.below HB.out.b rfl)
    have HU := hid hU
    have HW := hid hW
    have HBS := hid HB.out.s
    clear hW hU
    have GB : Hid (BoxL W w.heap.size [.int .i64 z0, .int .i64 z1, .int .i64 z2, .int .i64 z3, .int .i64 z4, .int .i64 z5, .int .i64 z6, .int .i64 z7, .slice a8 L8.length c8, .slice a9 L9.length c9, .slice a10 L10.length c10]) := HB.out.g
    have RB := hid HB.out.r
    have XB := hid HB.out.x
    have MM : Hid (Mv w W (.slice a8 L8.length c8) (.slice a9 L9.length c9) (.slice a10 L10.length c10) (.slice a8 L8.length c8) (.slice a9 L9.length c9) (.slice a10 L10.length c10)) := (Mv.refl w _ _ _).old (P := fun _ => False) (But.of HB.out.b) fun _ h => h.elim
    have HBL : Hid (w.heap.size + 3 ≤ W.heap.size) := by show _ ≤ _; have := HBS.out; omega
    have HXB : Hid (¬ Bk (.slice a8 L8.length c8) (.slice a9 L9.length c9) (.slice a10 L10.length c10) (w.heap.size + 1)) := HU.out.notBk (by omega)
    have HNB : Hid (¬ Bk (.slice a8 L8.length c8) (.slice a9 L9.length c9) (.slice a10 L10.length c10) w.heap.size) := HU.out.notBk (Nat.le_refl _)
    have HNR : Hid (¬ Bk (.slice a8 L8.length c8) (.slice a9 L9.length c9) (.slice a10 L10.length c10) (w.heap.size + 2)) := HU.out.notBk (by omega)
    obtain ⟨q0, q1, q2, q3, q4, q5, q6, q7, q8, q9, q10⟩ := GB.out.eleven
    obtain ⟨g0, g1, g2, g3, g4, g5, g6, g7, g8, g9, g10⟩ := GB.out.frozen11
    obtain ⟨r0, r1, r2, r3, r4, r5, r6, r7, r8, r9, r10⟩ := RB.out.eleven
    obtain ⟨f0, f1, f2, f3, f4, f5, f6, f7, f8, f9, f10⟩ := RB.out.frozen11
    obtain ⟨p0, p1⟩ := XB.out.two
    go_enter Try.func62, Try.ntmps62
    go_upto_region 1 with fail
    rw [← HW.out]
    clear HW
    have LF := gr_leaf (D := ⟨z0, z1, z2, z3, z4, z5, z6, z7, L8, L9, L10⟩) RB.out UW.out MM.out (b := (w.heap.size + 2)) (by have := HBS.out; omega) HNR.out
    dsimp only at LF
    have HL := hid LF.1
    obtain ⟨t0, t1, t2, t3, t4, t5, t6, t7, t8, t9, t10⟩ := LF.2.eleven
    clear LF
    go_wp2
    exact bodyPost_ret (v := .tuple #[grV ⟨z0, z1, z2, z3, z4, z5, z6, z7, L8, L9, L10⟩ (.slice a8 L8.length c8) (.slice a9 L9.length c9) (.slice a10 L10.length c10), .bool false]) (by simp [results, Try.results62, go_sem, t0, t1, t2, t3, t4, t5, t6, t7, t8, t9, t10]) rfl ⟨_, rfl, _, _, _, rfl, HL.out⟩
end Go.Proofs.Ytdlkilacnnjglaa
namespace Go.Proofs.Ytdlkilacnnjglaa
open Go.RowKit

set_option maxRecDepth 100000 in
set_option maxHeartbeats 8000000 in
theorem sst_neg (L : Nat) (x0 x1 z0 z1 z2 z3 z4 z5 z6 z7 : Int) (L8 L9 L10 : List HeEl) (v8 v9 v10 : Value) (w : World) (hL : L ≤ w.heap.size) (hU : RowsU L w v8 v9 v10 L8 L9 L10) (e1 : (x0 == 1) = false) (e5 : (x0 == 5) = false) (e6 : (x0 == 6) = false) (h1 : decide (x1 < 0) = true) :
    Calls Try.prog 62 #[.agg #[.int .i64 z0, .int .i64 z1, .int .i64 z2, .int .i64 z3, .int .i64 z4, .int .i64 z5, .int .i64 z6, .int .i64 z7, v8, v9, v10], .agg #[.int .i64 x0, .int .i64 x1]] w fun e w' => ∃ u, e = .returned (.tuple #[u, .bool false]) ∧ Moved L w v8 v9 v10 ⟨z0, z1, z2, z3, z4, z5, z6, z7, L8, L9, L10⟩ u w' := by
  have _hL := hL
  obtain ⟨a8, c8, a9, c9, a10, c10, rfl, rfl, rfl⟩ := hU.form
  obtain ⟨W, hW⟩ : ∃ W, W = ((w.alloc (.cells #[.int .i64 z0, .int .i64 z1, .int .i64 z2, .int .i64 z3, .int .i64 z4, .int .i64 z5, .int .i64 z6, .int .i64 z7, .slice a8 L8.length c8, .slice a9 L9.length c9, .slice a10 L10.length c10] 49)).alloc (.cells #[.int .i64 x0, .int .i64 x1] 91)).alloc (.cells #[.int .i64 0, .int .i64 0, .int .i64 0, .int .i64 0, .int .i64 0, .int .i64 0, .int .i64 0, .int .i64 0, .slice none 0 0, .slice none 0 0, .slice none 0 0] 49) := ⟨_, rfl⟩
  have HB : Hid (Boxes3 w W ⟨z0, z1, z2, z3, z4, z5, z6, z7, L8, L9, L10⟩ (.slice a8 L8.length c8) (.slice a9 L9.length c9) (.slice a10 L10.length c10) [.int .i64 x0, .int .i64 x1]) := by show Boxes3 _ _ _ _ _ _ _; rw [hW]; exact boxes3 w ⟨z0, z1, z2, z3, z4, z5, z6, z7, L8, L9, L10⟩ (.slice a8 L8.length c8) (.slice a9 L9.length c9) (.slice a10 L10.length c10) [.int .i64 x0, .int .i64 x1] 91 (by simp)
  have UW := hid (hU.below HB.out.b rfl)
  have HU := hid hU
  have HW := hid hW
  have HBS := hid HB.out.s
  clear hW hU
  have GB : Hid (BoxL W w.heap.size [.int .i64 z0, .int .i64 z1, .int .i64 z2, .int .i64 z3, .int .i64 z4, .int .i64 z5, .int .i64 z6, .int .i64 z7, .slice a8 L8.length c8, .slice a9 L9.length c9, .slice a10 L10.length c10]) := HB.out.g
  have RB := hid HB.out.r
  have XB := hid HB.out.x
  have MM : Hid (Mv w W (.slice a8 L8.length c8) (.slice a9 L9.length c9) (.slice a10 L10.length c10) (.slice a8 L8.length c8) (.slice a9 L9.length c9) (.slice a10 L10.length c10)) := (Mv.refl w _ _ _).old (P := fun _ => False) (But.of HB.out.b) fun _ h => h.elim
  have HBL : Hid (w.heap.size + 3 ≤ W.heap.size) := by show _ ≤ _; have := HBS.out; omega
  have HXB : Hid (¬ Bk (.slice a8 L8.length c8) (.slice a9 L9.length c9) (.slice a10 L10.length c10) (w.heap.size + 1)) := HU.out.notBk (by omega)
  have HNB : Hid (¬ Bk (.slice a8 L8.length c8) (.slice a9 L9.length c9) (.slice a10 L10.length c10) w.heap.size) := HU.out.notBk (Nat.le_refl _)
  have HNR : Hid (¬ Bk (.slice a8 L8.length c8) (.slice a9 L9.length c9) (.slice a10 L10.length c10) (w.heap.size + 2)) := HU.out.notBk (by omega)
  obtain ⟨q0, q1, q2, q3, q4, q5, q6, q7, q8, q9, q10⟩ := GB.out.eleven
  obtain ⟨g0, g1, g2, g3, g4, g5, g6, g7, g8, g9, g10⟩ := GB.out.frozen11
  obtain ⟨r0, r1, r2, r3, r4, r5, r6, r7, r8, r9, r10⟩ := RB.out.eleven
  obtain ⟨f0, f1, f2, f3, f4, f5, f6, f7, f8, f9, f10⟩ := RB.out.frozen11
  obtain ⟨p0, p1⟩ := XB.out.two
  go_enter Try.func62, Try.ntmps62
  go_upto_region 1 with fail
  rw [← HW.out]
  clear HW
  have LF := gr_leaf (D := ⟨z0, z1, z2, z3, z4, z5, z6, z7, L8, L9, L10⟩) RB.out UW.out MM.out (b := (w.heap.size + 2)) (by have := HBS.out; omega) HNR.out
  dsimp only at LF
  have HL := hid LF.1
  obtain ⟨t0, t1, t2, t3, t4, t5, t6, t7, t8, t9, t10⟩ := LF.2.eleven
  clear LF
  go_wp2
  exact bodyPost_ret (v := .tuple #[grV ⟨z0, z1, z2, z3, z4, z5, z6, z7, L8, L9, L10⟩ (.slice a8 L8.length c8) (.slice a9 L9.length c9) (.slice a10 L10.length c10), .bool false]) (by simp [results, Try.results62, go_sem, t0, t1, t2, t3, t4, t5, t6, t7, t8, t9, t10]) rfl ⟨_, rfl, _, _, _, rfl, HL.out⟩
end Go.Proofs.Ytdlkilacnnjglaa
