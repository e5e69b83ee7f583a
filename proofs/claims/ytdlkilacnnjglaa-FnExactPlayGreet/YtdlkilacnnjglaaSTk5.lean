/-
  spec.l15Take: one way of it.
-/
import Derived.Test.YtdlkilacnnjglaaSWr15
import Derived.Test.YtdlkilacnnjglaaSOp15
import Derived.Deep.DeepCutAuto
namespace Go.Proofs.Ytdlkilacnnjglaa
open Go.RowKit

set_option maxRecDepth 100000 in
set_option maxHeartbeats 8000000 in
theorem stk_none (L : Nat) (x1 x2 z0 z1 z2 z3 z4 z5 z6 z7 : Int) (L8 L9 L10 : List HeEl) (v8 v9 v10 : Value) (w : World) (hL : L ≤ w.heap.size) (hU : RowsU L w v8 v9 v10 L8 L9 L10) (s0 s2 r0 r5 : Bool) (hs0 : (z0 == 1) = s0) (hs2 : (z2 == x1) = s2) (hr0 : (z0 == 2) = r0) (hr5 : (z5 == x2) = r5) (hA : (s0 && s2) = false) (hB : (r0 && (s2 && r5)) = false) :
    Calls Try.prog 88 #[.agg #[.int .i64 z0, .int .i64 z1, .int .i64 z2, .int .i64 z3, .int .i64 z4, .int .i64 z5, .int .i64 z6, .int .i64 z7, v8, v9, v10], .agg #[.int .i64 2, .int .i64 x1, .int .i64 x2]] w fun e w' => ∃ u, e = .returned u ∧ Moved L w v8 v9 v10 ⟨z0, z1, z2, z3, z4, z5, z6, z7, L8, L9, L10⟩ u w' := by
  have HA := hid hA
  have HB2 := hid hB
  clear hA hB
  cases s2
  case false =>
    clear hr5
    cases s0 <;> cases r0
    all_goals
      have _hL := hL
      obtain ⟨a8, c8, a9, c9, a10, c10, rfl, rfl, rfl⟩ := hU.form
      obtain ⟨W, hW⟩ : ∃ W, W = ((w.alloc (.cells #[.int .i64 z0, .int .i64 z1, .int .i64 z2, .int .i64 z3, .int .i64 z4, .int .i64 z5, .int .i64 z6, .int .i64 z7, .slice a8 L8.length c8, .slice a9 L9.length c9, .slice a10 L10.length c10] 49)).alloc (.cells #[.int .i64 2, .int .i64 x1, .int .i64 x2] 116)).alloc (.cells #[.int .i64 0, .int .i64 0, .int .i64 0, .int .i64 0, .int .i64 0, .int .i64 0, .int .i64 0, .int .i64 0, .slice none 0 0, .slice none 0 0, .slice none 0 0] 49) := ⟨_, rfl⟩
      have HB : Hid (Boxes3 w W ⟨z0, z1, z2, z3, z4, z5, z6, z7, L8, L9, L10⟩ (.slice a8 L8.length c8) (.slice a9 L9.length c9) (.slice a10 L10.length c10) [.int .i64 2, .int .i64 x1, .int .i64 x2]) := by show Boxes3 _ _ _ _ _ _ _; rw [hW]; exact boxes3 w ⟨z0, z1, z2, z3, z4, z5, z6, z7, L8, L9, L10⟩ (.slice a8 L8.length c8) (.slice a9 L9.length c9) (.slice a10 L10.length c10) [.int .i64 2, .int .i64 x1, .int .i64 x2] 116 (by simp)
      have UW := hid (hU.below HB.out.b rfl)
      have HU := hid hU
      have HW := hid hW
      have HBS := hid HB.out.s
      clear hW hU
      have GB : Hid (BoxL W w.heap.size [.int .i64 z0, .int .i64 z1, .int .i64 z2, .int .i64 z3, .int .i64 z4, .int .i64 z5, .int .i64 z6, .int .i64 z7, .slice a8 L8.length c8, .slice a9 L9.length c9, .slice a10 L10.length c10]) := HB.out.g
      have RB := hid HB.out.r
      have XB := hid HB.out.x
      have MM : Hid (Mv w W (.slice a8 L8.length c8) (.slice a9 L9.length c9) (.slice a10 L10.length c10) (.slice a8 L8.length c8) (.slice a9 L9.length c9) (.slice a10 L10.length c10)) := (Mv.refl w _ _ _).old (P := fun _ => False) (But.of HB.out.b) fun _ h => h.elim
      have HBL : Hid (w.heap.size + 3 ≤ W.heap.size) := by show _ ≤ _; have := HBS.out; omega
      have HXB : Hid (¬ Bk (.slice a8 L8.length c8) (.slice a9 L9.length c9) (.slice a10 L10.length c10) (w.heap.size + 1)) := HU.out.notBk (by omega)
      have HNB : Hid (¬ Bk (.slice a8 L8.length c8) (.slice a9 L9.length c9) (.slice a10 L10.length c10) w.heap.size) := HU.out.notBk (Nat.le_refl _)
      have HNR : Hid (¬ Bk (.slice a8 L8.length c8) (.slice a9 L9.length c9) (.slice a10 L10.length c10) (w.heap.size + 2)) := HU.out.notBk (by omega)
      obtain ⟨q0, q1, q2, q3, q4, q5, q6, q7, q8, q9, q10⟩ := GB.out.eleven
      obtain ⟨g0, g1, g2, g3, g4, g5, g6, g7, g8, g9, g10⟩ := GB.out.frozen11
      obtain ⟨r0, r1, r2, r3, r4, r5, r6, r7, r8, r9, r10⟩ := RB.out.eleven
      obtain ⟨f0, f1, f2, f3, f4, f5, f6, f7, f8, f9, f10⟩ := RB.out.frozen11
      obtain ⟨p0, p1, p2⟩ := XB.out.three
      go_enter Try.func88, Try.ntmps88
      go_upto_region 1 with fail
      rw [← HW.out]
      clear HW
      have LF := gr_leaf (D := ⟨z0, z1, z2, z3, z4, z5, z6, z7, L8, L9, L10⟩) RB.out UW.out MM.out (b := (w.heap.size + 2)) (by have := HBS.out; omega) HNR.out
      dsimp only at LF
      have HL := hid LF.1
      obtain ⟨t0, t1, t2, t3, t4, t5, t6, t7, t8, t9, t10⟩ := LF.2.eleven
      clear LF
      go_wp2
      exact bodyPost_ret (v := grV ⟨z0, z1, z2, z3, z4, z5, z6, z7, L8, L9, L10⟩ (.slice a8 L8.length c8) (.slice a9 L9.length c9) (.slice a10 L10.length c10)) (by simp [results, Try.results88, go_sem, t0, t1, t2, t3, t4, t5, t6, t7, t8, t9, t10]) rfl ⟨_, rfl, _, _, _, rfl, HL.out⟩
  cases s0
  rotate_left
  · exact absurd HA.out (by decide)
  cases r0
  · clear hr5
    have _hL := hL
    obtain ⟨a8, c8, a9, c9, a10, c10, rfl, rfl, rfl⟩ := hU.form
    obtain ⟨W, hW⟩ : ∃ W, W = ((w.alloc (.cells #[.int .i64 z0, .int .i64 z1, .int .i64 z2, .int .i64 z3, .int .i64 z4, .int .i64 z5, .int .i64 z6, .int .i64 z7, .slice a8 L8.length c8, .slice a9 L9.length c9, .slice a10 L10.length c10] 49)).alloc (.cells #[.int .i64 2, .int .i64 x1, .int .i64 x2] 116)).alloc (.cells #[.int .i64 0, .int .i64 0, .int .i64 0, .int .i64 0, .int .i64 0, .int .i64 0, .int .i64 0, .int .i64 0, .slice none 0 0, .slice none 0 0, .slice none 0 0] 49) := ⟨_, rfl⟩
    have HB : Hid (Boxes3 w W ⟨z0, z1, z2, z3, z4, z5, z6, z7, L8, L9, L10⟩ (.slice a8 L8.length c8) (.slice a9 L9.length c9) (.slice a10 L10.length c10) [.int .i64 2, .int .i64 x1, .int .i64 x2]) := by show Boxes3 _ _ _ _ _ _ _; rw [hW]; exact boxes3 w ⟨z0, z1, z2, z3, z4, z5, z6, z7, L8, L9, L10⟩ (.slice a8 L8.length c8) (.slice a9 L9.length c9) (.slice a10 L10.length c10) [.int .i64 2, .int .i64 x1, .int .i64 x2] 116 (by simp)
    have UW := hid (hU.below HB.out.b rfl)
    have HU := hid hU
    have HW := hid hW
    have HBS := hid HB.out.s
    clear hW hU
    have GB : Hid (BoxL W w.heap.size [.int .i64 z0, .int .i64 z1, .int .i64 z2, .int .i64 z3, .int .i64 z4, .int .i64 z5, .int .i64 z6, .int .i64 z7, .slice a8 L8.length c8, .slice a9 L9.length c9, .slice a10 L10.length c10]) := HB.out.g
    have RB := hid HB.out.r
    have XB := hid HB.out.x
    have MM : Hid (Mv w W (.slice a8 L8.length c8) (.slice a9 L9.length c9) (.slice a10 L10.length c10) (.slice a8 L8.length c8) (.slice a9 L9.length c9) (.slice a10 L10.length c10)) := (Mv.refl w _ _ _).old (P := fun _ => False) (But.of HB.out.b) fun _ h => h.elim
    have HBL : Hid (w.heap.size + 3 ≤ W.heap.size) := by show _ ≤ _; have := HBS.out; omega
    have HXB : Hid (¬ Bk (.slice a8 L8.length c8) (.slice a9 L9.length c9) (.slice a10 L10.length c10) (w.heap.size + 1)) := HU.out.notBk (by omega)
    have HNB : Hid (¬ Bk (.slice a8 L8.length c8) (.slice a9 L9.length c9) (.slice a10 L10.length c10) w.heap.size) := HU.out.notBk (Nat.le_refl _)
    have HNR : Hid (¬ Bk (.slice a8 L8.length c8) (.slice a9 L9.length c9) (.slice a10 L10.length c10) (w.heap.size + 2)) := HU.out.notBk (by omega)
    obtain ⟨q0, q1, q2, q3, q4, q5, q6, q7, q8, q9, q10⟩ := GB.out.eleven
    obtain ⟨g0, g1, g2, g3, g4, g5, g6, g7, g8, g9, g10⟩ := GB.out.frozen11
    obtain ⟨r0, r1, r2, r3, r4, r5, r6, r7, r8, r9, r10⟩ := RB.out.eleven
    obtain ⟨f0, f1, f2, f3, f4, f5, f6, f7, f8, f9, f10⟩ := RB.out.frozen11
    obtain ⟨p0, p1, p2⟩ := XB.out.three
    go_enter Try.func88, Try.ntmps88
    go_upto_region 1 with fail
    rw [← HW.out]
    clear HW
    have LF := gr_leaf (D := ⟨z0, z1, z2, z3, z4, z5, z6, z7, L8, L9, L10⟩) RB.out UW.out MM.out (b := (w.heap.size + 2)) (by have := HBS.out; omega) HNR.out
    dsimp only at LF
    have HL := hid LF.1
    obtain ⟨t0, t1, t2, t3, t4, t5, t6, t7, t8, t9, t10⟩ := LF.2.eleven
    clear LF
    go_wp2
    exact bodyPost_ret (v := grV ⟨z0, z1, z2, z3, z4, z5, z6, z7, L8, L9, L10⟩ (.slice a8 L8.length c8) (.slice a9 L9.length c9) (.slice a10 L10.length c10)) (by simp [results, Try.results88, go_sem, t0, t1, t2, t3, t4, t5, t6, t7, t8, t9, t10]) rfl ⟨_, rfl, _, _, _, rfl, HL.out⟩
  · cases r5
    rotate_left
    · exact absurd HB2.out (by decide)
    have _hL := hL
    obtain ⟨a8, c8, a9, c9, a10, c10, rfl, rfl, rfl⟩ := hU.form
    obtain ⟨W, hW⟩ : ∃ W, W = ((w.alloc (.cells #[.int .i64 z0, .int .i64 z1, .int .i64 z2, .int .i64 z3, .int .i64 z4, .int .i64 z5, .int .i64 z6, .int .i64 z7, .slice a8 L8.length c8, .slice a9 L9.length c9, .slice a10 L10.length c10] 49)).alloc (.cells #[.int .i64 2, .int .i64 x1, .int .i64 x2] 116)).alloc (.cells #[.int .i64 0, .int .i64 0, .int .i64 0, .int .i64 0, .int .i64 0, .int .i64 0, .int .i64 0, .int .i64 0, .slice none 0 0, .slice none 0 0, .slice none 0 0] 49) := ⟨_, rfl⟩
    have HB : Hid (Boxes3 w W ⟨z0, z1, z2, z3, z4, z5, z6, z7, L8, L9, L10⟩ (.slice a8 L8.length c8) (.slice a9 L9.length c9) (.slice a10 L10.length c10) [.int .i64 2, .int .i64 x1, .int .i64 x2]) := by show Boxes3 _ _ _ _ _ _ _; rw [hW]; exact boxes3 w ⟨z0, z1, z2, z3, z4, z5, z6, z7, L8, L9, L10⟩ (.slice a8 L8.length c8) (.slice a9 L9.length c9) (.slice a10 L10.length c10) [.int .i64 2, .int .i64 x1, .int .i64 x2] 116 (by simp)
    have UW := hid (hU.below HB.out.b rfl)
    have HU := hid hU
    have HW := hid hW
    have HBS := hid HB.out.s
    clear hW hU
    have GB : Hid (BoxL W w.heap.size [.int .i64 z0, .int .i64 z1, .int .i64 z2, .int .i64 z3, .int .i64 z4, .int .i64 z5, .int .i64 z6, .int .i64 z7, .slice a8 L8.length c8, .slice a9 L9.length c9, .slice a10 L10.length c10]) := HB.out.g
    have RB := hid HB.out.r
    have XB := hid HB.out.x
    have MM : Hid (Mv w W (.slice a8 L8.length c8) (.slice a9 L9.length c9) (.slice a10 L10.length c10) (.slice a8 L8.length c8) (.slice a9 L9.length c9) (.slice a10 L10.length c10)) := (Mv.refl w _ _ _).old (P := fun _ => False) (But.of HB.out.b) fun _ h => h.elim
    have HBL : Hid (w.heap.size + 3 ≤ W.heap.size) := by show _ ≤ _; have := HBS.out; omega
    have HXB : Hid (¬ Bk (.slice a8 L8.length c8) (.slice a9 L9.length c9) (.slice a10 L10.length c10) (w.heap.size + 1)) := HU.out.notBk (by omega)
    have HNB : Hid (¬ Bk (.slice a8 L8.length c8) (.slice a9 L9.length c9) (.slice a10 L10.length c10) w.heap.size) := HU.out.notBk (Nat.le_refl _)
    have HNR : Hid (¬ Bk (.slice a8 L8.length c8) (.slice a9 L9.length c9) (.slice a10 L10.length c10) (w.heap.size + 2)) := HU.out.notBk (by omega)
    obtain ⟨q0, q1, q2, q3, q4, q5, q6, q7, q8, q9, q10⟩ := GB.out.eleven
    obtain ⟨g0, g1, g2, g3, g4, g5, g6, g7, g8, g9, g10⟩ := GB.out.frozen11
    obtain ⟨r0, r1, r2, r3, r4, r5, r6, r7, r8, r9, r10⟩ := RB.out.eleven
    obtain ⟨f0, f1, f2, f3, f4, f5, f6, f7, f8, f9, f10⟩ := RB.out.frozen11
    obtain ⟨p0, p1, p2⟩ := XB.out.three
    go_enter Try.func88, Try.ntmps88
    go_upto_region 1 with fail
    rw [← HW.out]
    clear HW
    have LF := gr_leaf (D := ⟨z0, z1, z2, z3, z4, z5, z6, z7, L8, L9, L10⟩) RB.out UW.out MM.out (b := (w.heap.size + 2)) (by have := HBS.out; omega) HNR.out
    dsimp only at LF
    have HL := hid LF.1
    obtain ⟨t0, t1, t2, t3, t4, t5, t6, t7, t8, t9, t10⟩ := LF.2.eleven
    clear LF
    go_wp2
    exact bodyPost_ret (v := grV ⟨z0, z1, z2, z3, z4, z5, z6, z7, L8, L9, L10⟩ (.slice a8 L8.length c8) (.slice a9 L9.length c9) (.slice a10 L10.length c10)) (by simp [results, Try.results88, go_sem, t0, t1, t2, t3, t4, t5, t6, t7, t8, t9, t10]) rfl ⟨_, rfl, _, _, _, rfl, HL.out⟩
end Go.Proofs.Ytdlkilacnnjglaa
