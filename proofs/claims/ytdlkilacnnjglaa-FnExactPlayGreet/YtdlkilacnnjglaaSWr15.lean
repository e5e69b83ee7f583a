/-
  spec.l15Write: a letter put behind the line, where there is room.
-/
import Derived.Test.YtdlkilacnnjglaaPut11
import Derived.Deep.DeepCutAuto
namespace Go.Proofs.Ytdlkilacnnjglaa
open Go.RowKit

set_option maxRecDepth 100000 in
set_option maxHeartbeats 8000000 in
theorem l15Write_any (L : Nat) (D : GrD) (x : HeEl) (v8 v9 v10 : Value) (w : World) (hL : L ≤ w.heap.size) (hU : RowsU L w v8 v9 v10 D.f8 D.f9 D.f10) :
    Calls Try.prog 86 #[grV D v8 v9 v10, .agg #[.int .i64 x.1, .int .i64 x.2.1, .int .i64 x.2.2]] w fun e w' => ∃ u, e = .returned u ∧ Moved L w v8 v9 v10 (wrG D x) u w' := by
  obtain ⟨z0, z1, z2, z3, z4, z5, z6, z7, L8, L9, L10⟩ := D
  obtain ⟨x0, x1, x2⟩ := x
  simp only at hU ⊢
  obtain ⟨a8, c8, a9, c9, a10, c10, rfl, rfl, rfl⟩ := hU.form
  obtain ⟨W, hW⟩ : ∃ W, W = ((w.alloc (.cells #[.int .i64 z0, .int .i64 z1, .int .i64 z2, .int .i64 z3, .int .i64 z4, .int .i64 z5, .int .i64 z6, .int .i64 z7, .slice a8 L8.length c8, .slice a9 L9.length c9, .slice a10 L10.length c10] 49)).alloc (.cells #[.int .i64 x0, .int .i64 x1, .int .i64 x2] 116)).alloc (.cells #[.int .i64 0, .int .i64 0, .int .i64 0, .int .i64 0, .int .i64 0, .int .i64 0, .int .i64 0, .int .i64 0, .slice none 0 0, .slice none 0 0, .slice none 0 0] 49) := ⟨_, rfl⟩
  have HB : Hid (Boxes3 w W ⟨z0, z1, z2, z3, z4, z5, z6, z7, L8, L9, L10⟩ (.slice a8 L8.length c8) (.slice a9 L9.length c9) (.slice a10 L10.length c10) [.int .i64 x0, .int .i64 x1, .int .i64 x2]) := by show Boxes3 _ _ _ _ _ _ _; rw [hW]; exact boxes3 w ⟨z0, z1, z2, z3, z4, z5, z6, z7, L8, L9, L10⟩ (.slice a8 L8.length c8) (.slice a9 L9.length c9) (.slice a10 L10.length c10) [.int .i64 x0, .int .i64 x1, .int .i64 x2] 116 (by simp)
  have UW := hid (hU.below HB.out.b rfl)
  have HU := hid hU
  have HW := hid hW
  have HBS := hid HB.out.s
  clear hW hU
  have GB : Hid (BoxL W w.heap.size [.int .i64 z0, .int .i64 z1, .int .i64 z2, .int .i64 z3, .int .i64 z4, .int .i64 z5, .int .i64 z6, .int .i64 z7, .slice a8 L8.length c8, .slice a9 L9.length c9, .slice a10 L10.length c10]) := HB.out.g
  have RB := hid HB.out.r
  have XB := hid HB.out.x
  have MM : Hid (Mv w W (.slice a8 L8.length c8) (.slice a9 L9.length c9) (.slice a10 L10.length c10) (.slice a8 L8.length c8) (.slice a9 L9.length c9) (.slice a10 L10.length c10)) := (Mv.refl w _ _ _).old (P := fun _ => False) (But.of HB.out.b) fun _ h => h.elim
  have HNB : Hid (¬ Bk (.slice a8 L8.length c8) (.slice a9 L9.length c9) (.slice a10 L10.length c10) w.heap.size) := HU.out.notBk (Nat.le_refl _)
  have HNR : Hid (¬ Bk (.slice a8 L8.length c8) (.slice a9 L9.length c9) (.slice a10 L10.length c10) (w.heap.size + 2)) := HU.out.notBk (by have := HBS.out; omega)
  by_cases hlt : L8.length < 30
  · have hE : wrG ⟨z0, z1, z2, z3, z4, z5, z6, z7, L8, L9, L10⟩ (x0, x1, x2) = ⟨z0, z1, z2, z3, z4, z5, z6, z7, L8 ++ [(x0, x1, x2)], L9, L10⟩ := if_pos hlt
    rw [hE]
    have hd : decide ((L8.length : Int) < 30) = true := by rw [decide_eq_true_eq]; omega
    clear hE
    obtain ⟨q0, q1, q2, q3, q4, q5, q6, q7, q8, q9, q10⟩ := GB.out.eleven
    obtain ⟨g0, g1, g2, g3, g4, g5, g6, g7, g8, g9, g10⟩ := GB.out.frozen11
    obtain ⟨r0, r1, r2, r3, r4, r5, r6, r7, r8, r9, r10⟩ := RB.out.eleven
    obtain ⟨f0, f1, f2, f3, f4, f5, f6, f7, f8, f9, f10⟩ := RB.out.frozen11
    obtain ⟨p0, p1, p2⟩ := XB.out.three
    go_enter Try.func86, Try.ntmps86
    go_upto_region 1 with fail
    rw [← HW.out]
    clear HW
    have bA : Below W.heap.size W (W.alloc (.cells #[.int .i64 x0, .int .i64 x1, .int .i64 x2] 116)) := (Below.refl _ _).alloc (Nat.le_refl _) _
    have UA := hid (UW.out.below bA rfl)
    go_wp2_with (at_builtin; refine wpList_append_he _ rfl _ _ rfl L _ L8.length L8 rfl UA.out.r8 _ [(x0, x1, x2)] rfl (hereads_one W (x0, x1, x2) _) (by simp; omega) (by rw [World.size_alloc]; have := HBS.out; omega) ?_)
    intro u8 w1 ho hg hat
    obtain ⟨au, cu, rfl, _⟩ := heowns_form (n := L8.length + 1) ho
    clear q0 q1 q2 q3 q4 q5 q6 q7 q8 q9 q10 g0 g1 g2 g3 g4 g5 g6 g7 g8 g9 g10 r0 r1 r2 r3 r4 r5 r6 r7 r8 r9 r10 f0 f1 f2 f3 f4 f5 f6 f7 f8 f9 f10 p0 p1 p2
    replace MM := hid (Mv.app8 (w := w) (v9 := (.slice a9 L9.length c9)) (v10 := (.slice a10 L10.length c10)) (HB.out.b.trans (bA.mono (by have := HBS.out; omega))) hg hat (by simp))
    replace UW := hid (UA.out.app8 (by simp; omega) ho hg hat (by simp))
    replace GB := hid ((GB.out.below bA GB.out.lt).grownB hg (HU.out.row8 (by have := HBS.out; omega)))
    replace RB := hid ((RB.out.below bA RB.out.lt).grownB hg (HU.out.row8 (by have := HBS.out; omega)))
    replace XB := hid ((XB.out.below bA XB.out.lt).grownB hg (HU.out.row8 (by have := HBS.out; omega)))
    have hs1 : W.heap.size ≤ w1.heap.size := Nat.le_trans bA.size hg.size
    have HAT : Hid (∀ b, b < W.heap.size → ¬ Bk (.slice a8 L8.length c8) (.slice a9 L9.length c9) (.slice a10 L10.length c10) b → ¬ Bk (.slice au (L8.length + 1) cu) (.slice a9 L9.length c9) (.slice a10 L10.length c10) b) := fun b hb hn hk => by
      rcases hk with hk | hk
      · rcases hat with e | e
        · exact hn (.inl (e ▸ hk))
        · rw [e] at hk; cases hk; have := HBS.out; omega
      · exact hn (.inr hk)
    replace HNB := hid (HAT.out _ (by have := HBS.out; omega) HNB.out)
    replace HNR := hid (HAT.out _ (by have := HBS.out; omega) HNR.out)
    clear ho hg hat HAT bA UA
    obtain ⟨q0, q1, q2, q3, q4, q5, q6, q7, q8, q9, q10⟩ := GB.out.eleven
    obtain ⟨g0, g1, g2, g3, g4, g5, g6, g7, g8, g9, g10⟩ := GB.out.frozen11
    obtain ⟨r0, r1, r2, r3, r4, r5, r6, r7, r8, r9, r10⟩ := RB.out.eleven
    obtain ⟨f0, f1, f2, f3, f4, f5, f6, f7, f8, f9, f10⟩ := RB.out.frozen11
    obtain ⟨p0, p1, p2⟩ := XB.out.three
    have HN8 : Hid ((Value.slice au (L8.length + 1) cu).ownBlock ≠ some w.heap.size) := fun e => HNB.out (.inl e)
    have HN9 : Hid ((Value.slice a9 L9.length c9).ownBlock ≠ some w.heap.size) := fun e => HNB.out (.inr (.inl e))
    have HN10 : Hid ((Value.slice a10 L10.length c10).ownBlock ≠ some w.heap.size) := fun e => HNB.out (.inr (.inr e))
    replace MM := hid (MM.out.set (j := 8) (b := w.heap.size) (Nat.le_refl _) (.slice au (L8.length + 1) cu))
    replace UW := hid (UW.out.set (j := 8) (b := w.heap.size) (.slice au (L8.length + 1) cu) HN8.out HN9.out HN10.out)
    replace RB : Hid (BoxL (w1.setCell ⟨w.heap.size, 8, none⟩ (.slice au (L8.length + 1) cu)) (w.heap.size + 2) zeroC) := RB.out.but ((But.refl _ _).setCell (P := fun k => k = w.heap.size) (p := ⟨w.heap.size, 8, none⟩) rfl _) (by have := HBS.out; omega)
    replace XB : Hid (BoxL (w1.setCell ⟨w.heap.size, 8, none⟩ (.slice au (L8.length + 1) cu)) (w.heap.size + 1) [.int .i64 x0, .int .i64 x1, .int .i64 x2]) := XB.out.but ((But.refl _ _).setCell (P := fun k => k = w.heap.size) (p := ⟨w.heap.size, 8, none⟩) rfl _) (by have := HBS.out; omega)
    replace GB : Hid (BoxL (w1.setCell ⟨w.heap.size, 8, none⟩ (.slice au (L8.length + 1) cu)) w.heap.size [.int .i64 z0, .int .i64 z1, .int .i64 z2, .int .i64 z3, .int .i64 z4, .int .i64 z5, .int .i64 z6, .int .i64 z7, .slice au (L8.length + 1) cu, .slice a9 L9.length c9, .slice a10 L10.length c10]) := GB.out.set 8 (by simp) _
    have LF := gr_leaf (D := ⟨z0, z1, z2, z3, z4, z5, z6, z7, L8 ++ [(x0, x1, x2)], L9, L10⟩) RB.out UW.out MM.out (b := (w.heap.size + 2)) (by have := HBS.out; omega) HNR.out
    dsimp only at LF
    have HL := hid LF.1
    obtain ⟨t0, t1, t2, t3, t4, t5, t6, t7, t8, t9, t10⟩ := LF.2.eleven
    clear LF
    go_wp2
    exact bodyPost_ret (v := grV ⟨z0, z1, z2, z3, z4, z5, z6, z7, L8 ++ [(x0, x1, x2)], L9, L10⟩ (.slice au (L8.length + 1) cu) (.slice a9 L9.length c9) (.slice a10 L10.length c10)) (by simp [results, Try.results86, go_sem, t0, t1, t2, t3, t4, t5, t6, t7, t8, t9, t10]) rfl ⟨_, rfl, _, _, _, rfl, HL.out⟩
  · have hE : wrG ⟨z0, z1, z2, z3, z4, z5, z6, z7, L8, L9, L10⟩ (x0, x1, x2) = ⟨z0, z1, z2, z3, z4, z5, z6, z7, L8, L9, L10⟩ := if_neg hlt
    rw [hE]
    have hd : decide ((L8.length : Int) < 30) = false := by rw [decide_eq_false_iff_not]; omega
    clear hE hlt
    obtain ⟨q0, q1, q2, q3, q4, q5, q6, q7, q8, q9, q10⟩ := GB.out.eleven
    obtain ⟨g0, g1, g2, g3, g4, g5, g6, g7, g8, g9, g10⟩ := GB.out.frozen11
    obtain ⟨r0, r1, r2, r3, r4, r5, r6, r7, r8, r9, r10⟩ := RB.out.eleven
    obtain ⟨f0, f1, f2, f3, f4, f5, f6, f7, f8, f9, f10⟩ := RB.out.frozen11
    obtain ⟨p0, p1, p2⟩ := XB.out.three
    go_enter Try.func86, Try.ntmps86
    go_upto_region 1 with fail
    rw [← HW.out]
    clear HW
    have LF := gr_leaf (D := ⟨z0, z1, z2, z3, z4, z5, z6, z7, L8, L9, L10⟩) RB.out UW.out MM.out (b := (w.heap.size + 2)) (by have := HBS.out; omega) HNR.out
    dsimp only at LF
    have HL := hid LF.1
    obtain ⟨t0, t1, t2, t3, t4, t5, t6, t7, t8, t9, t10⟩ := LF.2.eleven
    clear LF
    go_wp2
    exact bodyPost_ret (v := grV ⟨z0, z1, z2, z3, z4, z5, z6, z7, L8, L9, L10⟩ (.slice a8 L8.length c8) (.slice a9 L9.length c9) (.slice a10 L10.length c10)) (by simp [results, Try.results86, go_sem, t0, t1, t2, t3, t4, t5, t6, t7, t8, t9, t10]) rfl ⟨_, rfl, _, _, _, rfl, HL.out⟩
theorem l15Write_E (L : Nat) (D : GrD) (x : HeEl) (E : GrD) (v8 v9 v10 : Value) (w : World) (hL : L ≤ w.heap.size) (hU : RowsU L w v8 v9 v10 D.f8 D.f9 D.f10) (hE : wrG D x = E) :
    Calls Try.prog 86 #[grV D v8 v9 v10, .agg #[.int .i64 x.1, .int .i64 x.2.1, .int .i64 x.2.2]] w fun e w' => ∃ u, e = .returned u ∧ Moved L w v8 v9 v10 E u w' := hE ▸ l15Write_any L D x v8 v9 v10 w hL hU
end Go.Proofs.Ytdlkilacnnjglaa
