/-
  spec.l15Take: one way of it.
  spec.l15Take: one way of it.
  spec.l15Take: a letter is taken.
  spec.l15Take, what it tells by a letter.
-/
import Derived.Test.YtdlkilacnnjglaaSWr15
import Derived.Test.YtdlkilacnnjglaaSOp15
import Derived.Deep.DeepCutAuto
import Derived.Test.YtdlkilacnnjglaaSTk2
import Derived.Test.YtdlkilacnnjglaaSTk3
import Derived.Test.YtdlkilacnnjglaaSTk5
namespace Go.Proofs.Ytdlkilacnnjglaa
open Go.RowKit

set_option maxRecDepth 100000 in
set_option maxHeartbeats 8000000 in
theorem stk_ack (L : Nat) (x0 z0 z2 z3 z4 z5 z6 z7 : Int) (L8 L9 L10 : List HeEl) (v8 v9 v10 : Value) (w : World) (hL : L ≤ w.heap.size) (hU : RowsU L w v8 v9 v10 L8 L9 L10) (h10 : L10.length < 300) (e1 : (x0 == 1) = false) (e2 : (x0 == 2) = false) :
    Calls Try.prog 88 #[.agg #[.int .i64 z0, .int .i64 1, .int .i64 z2, .int .i64 z3, .int .i64 z4, .int .i64 z5, .int .i64 z6, .int .i64 z7, v8, v9, v10], .agg #[.int .i64 x0, .int .i64 z4, .int .i64 z3]] w fun e w' => ∃ u, e = .returned u ∧ Moved L w v8 v9 v10 ⟨z0, 2, z2, z3, z4, z5, z6, z7, L8, L9, (L10 ++ [(3, z4, z3)])⟩ u w' := by
  obtain ⟨a8, c8, a9, c9, a10, c10, rfl, rfl, rfl⟩ := hU.form
  obtain ⟨W, hW⟩ : ∃ W, W = ((w.alloc (.cells #[.int .i64 z0, .int .i64 1, .int .i64 z2, .int .i64 z3, .int .i64 z4, .int .i64 z5, .int .i64 z6, .int .i64 z7, .slice a8 L8.length c8, .slice a9 L9.length c9, .slice a10 L10.length c10] 49)).alloc (.cells #[.int .i64 x0, .int .i64 z4, .int .i64 z3] 116)).alloc (.cells #[.int .i64 0, .int .i64 0, .int .i64 0, .int .i64 0, .int .i64 0, .int .i64 0, .int .i64 0, .int .i64 0, .slice none 0 0, .slice none 0 0, .slice none 0 0] 49) := ⟨_, rfl⟩
  have HB : Hid (Boxes3 w W ⟨z0, 1, z2, z3, z4, z5, z6, z7, L8, L9, L10⟩ (.slice a8 L8.length c8) (.slice a9 L9.length c9) (.slice a10 L10.length c10) [.int .i64 x0, .int .i64 z4, .int .i64 z3]) := by show Boxes3 _ _ _ _ _ _ _; rw [hW]; exact boxes3 w ⟨z0, 1, z2, z3, z4, z5, z6, z7, L8, L9, L10⟩ (.slice a8 L8.length c8) (.slice a9 L9.length c9) (.slice a10 L10.length c10) [.int .i64 x0, .int .i64 z4, .int .i64 z3] 116 (by simp)
  have UW := hid (hU.below HB.out.b rfl)
  have HU := hid hU
  have HW := hid hW
  have HBS := hid HB.out.s
  clear hW hU
  have GB : Hid (BoxL W w.heap.size [.int .i64 z0, .int .i64 1, .int .i64 z2, .int .i64 z3, .int .i64 z4, .int .i64 z5, .int .i64 z6, .int .i64 z7, .slice a8 L8.length c8, .slice a9 L9.length c9, .slice a10 L10.length c10]) := HB.out.g
  have RB := hid HB.out.r
  have XB := hid HB.out.x
  have MM : Hid (Mv w W (.slice a8 L8.length c8) (.slice a9 L9.length c9) (.slice a10 L10.length c10) (.slice a8 L8.length c8) (.slice a9 L9.length c9) (.slice a10 L10.length c10)) := (Mv.refl w _ _ _).old (P := fun _ => False) (But.of HB.out.b) fun _ h => h.elim
  have HBL : Hid (w.heap.size + 3 ≤ W.heap.size) := by show _ ≤ _; have := HBS.out; omega
  have HXB : Hid (¬ Bk (.slice a8 L8.length c8) (.slice a9 L9.length c9) (.slice a10 L10.length c10) (w.heap.size + 1)) := HU.out.notBk (by omega)
  have HNB : Hid (¬ Bk (.slice a8 L8.length c8) (.slice a9 L9.length c9) (.slice a10 L10.length c10) w.heap.size) := HU.out.notBk (Nat.le_refl _)
  have HNR : Hid (¬ Bk (.slice a8 L8.length c8) (.slice a9 L9.length c9) (.slice a10 L10.length c10) (w.heap.size + 2)) := HU.out.notBk (by omega)
  obtain ⟨q0, q1, q2, q3, q4, q5, q6, q7, q8, q9, q10⟩ := GB.out.eleven
  obtain ⟨g0, g1, g2, g3, g4, g5, g6, g7, g8, g9, g10⟩ := GB.out.frozen11
  obtain ⟨r0, r1, r2, r3, r4, r5, r6, r7, r8, r9, r10⟩ := RB.out.eleven
  obtain ⟨f0, f1, f2, f3, f4, f5, f6, f7, f8, f9, f10⟩ := RB.out.frozen11
  obtain ⟨p0, p1, p2⟩ := XB.out.three
  go_enter Try.func88, Try.ntmps88
  go_upto_region 1 with fail
  rw [← HW.out]
  clear HW
  have HN8 : Hid ((Value.slice a8 L8.length c8).ownBlock ≠ some w.heap.size) := fun e => HNB.out (.inl e)
  have HN9 : Hid ((Value.slice a9 L9.length c9).ownBlock ≠ some w.heap.size) := fun e => HNB.out (.inr (.inl e))
  have HN10 : Hid ((Value.slice a10 L10.length c10).ownBlock ≠ some w.heap.size) := fun e => HNB.out (.inr (.inr e))
  replace MM := hid (MM.out.set (j := 1) (b := w.heap.size) (Nat.le_refl _) (.int .i64 2))
  replace UW := hid (UW.out.set (j := 1) (b := w.heap.size) (.int .i64 2) HN8.out HN9.out HN10.out)
  replace RB : Hid (BoxL (W.setCell ⟨w.heap.size, 1, none⟩ (.int .i64 2)) (w.heap.size + 2) zeroC) := RB.out.but ((But.refl _ _).setCell (P := fun k => k = w.heap.size) (p := ⟨w.heap.size, 1, none⟩) rfl _) (by have := HBS.out; omega)
  replace XB : Hid (BoxL (W.setCell ⟨w.heap.size, 1, none⟩ (.int .i64 2)) (w.heap.size + 1) [.int .i64 x0, .int .i64 z4, .int .i64 z3]) := XB.out.but ((But.refl _ _).setCell (P := fun k => k = w.heap.size) (p := ⟨w.heap.size, 1, none⟩) rfl _) (by have := HBS.out; omega)
  replace GB : Hid (BoxL (W.setCell ⟨w.heap.size, 1, none⟩ (.int .i64 2)) w.heap.size [.int .i64 z0, .int .i64 2, .int .i64 z2, .int .i64 z3, .int .i64 z4, .int .i64 z5, .int .i64 z6, .int .i64 z7, .slice a8 L8.length c8, .slice a9 L9.length c9, .slice a10 L10.length c10]) := GB.out.set 1 (by simp) _
  go_wp2_with fail
  refine (l15Opened_any L _ L10 z4 z3 _ (Nat.le_trans hL MM.out.but.size) UW.out.r10 (by omega)).mono ?_
  rintro e w1 ⟨au, cu, m, rfl, ho, hg, hat, hm⟩
  clear q0 q1 q2 q3 q4 q5 q6 q7 q8 q9 q10 g0 g1 g2 g3 g4 g5 g6 g7 g8 g9 g10 r0 r1 r2 r3 r4 r5 r6 r7 r8 r9 r10 f0 f1 f2 f3 f4 f5 f6 f7 f8 f9 f10 p0 p1 p2
  have HRN : Hid ((Value.slice a10 L10.length c10).ownBlock ≠ some (w.heap.size + 2)) := fun e => HNR.out (.inr <| .inr e)
  have HRX : Hid ((Value.slice a10 L10.length c10).ownBlock ≠ some (w.heap.size + 1)) := fun e => HXB.out (.inr <| .inr e)
  have M2 := Mv.app10 (v8 := (.slice a8 L8.length c8)) (v9 := (.slice a9 L9.length c9)) (Below.refl _ _) hg hat hm
  replace UW := hid (UW.out.app10 (ys := [(3, z4, z3)]) (by simp; omega) ho hg hat hm)
  have hl1 := GB.out.lt
  have hl2 := RB.out.lt
  replace GB := hid (GB.out.grownB hg HN10.out)
  replace RB := hid (RB.out.grownB hg HRN.out)
  replace XB := hid (XB.out.grownB hg HRX.out)
  replace HNB := hid (M2.notBk HNB.out hl1)
  replace HNR := hid (M2.notBk HNR.out hl2)
  replace MM := hid (MM.out.trans M2)
  clear M2 ho hg hat HN8 HN9 HN10 HRN HRX hl1 hl2
  obtain ⟨q0, q1, q2, q3, q4, q5, q6, q7, q8, q9, q10⟩ := GB.out.eleven
  obtain ⟨g0, g1, g2, g3, g4, g5, g6, g7, g8, g9, g10⟩ := GB.out.frozen11
  obtain ⟨r0, r1, r2, r3, r4, r5, r6, r7, r8, r9, r10⟩ := RB.out.eleven
  obtain ⟨f0, f1, f2, f3, f4, f5, f6, f7, f8, f9, f10⟩ := RB.out.frozen11
  obtain ⟨p0, p1, p2⟩ := XB.out.three
  have HN8 : Hid ((Value.slice a8 L8.length c8).ownBlock ≠ some w.heap.size) := fun e => HNB.out (.inl e)
  have HN9 : Hid ((Value.slice a9 L9.length c9).ownBlock ≠ some w.heap.size) := fun e => HNB.out (.inr (.inl e))
  have HN10 : Hid ((Value.slice au (L10.length + 1) cu).ownBlock ≠ some w.heap.size) := fun e => HNB.out (.inr (.inr e))
  replace MM := hid (MM.out.set (j := 10) (b := w.heap.size) (Nat.le_refl _) (.slice au (L10.length + 1) cu))
  replace UW := hid (UW.out.set (j := 10) (b := w.heap.size) (.slice au (L10.length + 1) cu) HN8.out HN9.out HN10.out)
  replace RB : Hid (BoxL (w1.setCell ⟨w.heap.size, 10, none⟩ (.slice au (L10.length + 1) cu)) (w.heap.size + 2) zeroC) := RB.out.but ((But.refl _ _).setCell (P := fun k => k = w.heap.size) (p := ⟨w.heap.size, 10, none⟩) rfl _) (by have := HBS.out; omega)
  replace XB : Hid (BoxL (w1.setCell ⟨w.heap.size, 10, none⟩ (.slice au (L10.length + 1) cu)) (w.heap.size + 1) [.int .i64 x0, .int .i64 z4, .int .i64 z3]) := XB.out.but ((But.refl _ _).setCell (P := fun k => k = w.heap.size) (p := ⟨w.heap.size, 10, none⟩) rfl _) (by have := HBS.out; omega)
  replace GB : Hid (BoxL (w1.setCell ⟨w.heap.size, 10, none⟩ (.slice au (L10.length + 1) cu)) w.heap.size [.int .i64 z0, .int .i64 2, .int .i64 z2, .int .i64 z3, .int .i64 z4, .int .i64 z5, .int .i64 z6, .int .i64 z7, .slice a8 L8.length c8, .slice a9 L9.length c9, .slice au (L10.length + 1) cu]) := GB.out.set 10 (by simp) _
  have LF := gr_leaf (D := ⟨z0, 2, z2, z3, z4, z5, z6, z7, L8, L9, L10 ++ [(3, z4, z3)]⟩) RB.out UW.out MM.out (b := (w.heap.size + 2)) (by have := HBS.out; omega) HNR.out
  dsimp only at LF
  have HL := hid LF.1
  obtain ⟨t0, t1, t2, t3, t4, t5, t6, t7, t8, t9, t10⟩ := LF.2.eleven
  clear LF
  go_wp2
  exact bodyPost_ret (v := grV ⟨z0, 2, z2, z3, z4, z5, z6, z7, L8, L9, L10 ++ [(3, z4, z3)]⟩ (.slice a8 L8.length c8) (.slice a9 L9.length c9) (.slice au (L10.length + 1) cu)) (by simp [results, Try.results88, go_sem, t0, t1, t2, t3, t4, t5, t6, t7, t8, t9, t10]) rfl ⟨_, rfl, _, _, _, rfl, HL.out⟩
end Go.Proofs.Ytdlkilacnnjglaa
namespace Go.Proofs.Ytdlkilacnnjglaa
open Go.RowKit

set_option maxRecDepth 100000 in
set_option maxHeartbeats 8000000 in
theorem stk_ack_no (L : Nat) (x0 x1 x2 z0 z1 z2 z3 z4 z5 z6 z7 : Int) (L8 L9 L10 : List HeEl) (v8 v9 v10 : Value) (w : World) (hL : L ≤ w.heap.size) (hU : RowsU L w v8 v9 v10 L8 L9 L10) (e1 : (x0 == 1) = false) (e2 : (x0 == 2) = false) (s0 s2 r5 : Bool) (hs0 : (z1 == 1) = s0) (hs2 : (z4 == x1) = s2) (hr5 : (z3 == x2) = r5) (hA : (s0 && (s2 && r5)) = false) :
    Calls Try.prog 88 #[.agg #[.int .i64 z0, .int .i64 z1, .int .i64 z2, .int .i64 z3, .int .i64 z4, .int .i64 z5, .int .i64 z6, .int .i64 z7, v8, v9, v10], .agg #[.int .i64 x0, .int .i64 x1, .int .i64 x2]] w fun e w' => ∃ u, e = .returned u ∧ Moved L w v8 v9 v10 ⟨z0, z1, z2, z3, z4, z5, z6, z7, L8, L9, L10⟩ u w' := by
  have HA := hid hA
  clear hA
  cases s0 <;> cases s2 <;> cases r5
  case true.true.true => exact absurd HA.out (by decide)
  all_goals
    have _hL := hL
    obtain ⟨a8, c8, a9, c9, a10, c10, rfl, rfl, rfl⟩ := hU.form
    obtain ⟨W, hW⟩ : ∃ W, W = ((w.alloc (.cells #[.int .i64 z0, .int .i64 z1, .int .i64 z2, .int .i64 z3, .int .i64 z4, .int .i64 z5, .int .i64 z6, .int .i64 z7, .slice a8 L8.length c8, .slice a9 L9.length c9, .slice a10 L10.length c10] 49)).alloc (.cells #[.int .i64 x0, .int .i64 x1, .int .i64 x2] 116)).alloc (.cells #[.int .i64 0, .int .i64 0, .int .i64 0, .int .i64 0, .int .i64 0, .int .i64 0, .int .i64 0, .int .i64 0, .slice none 0 0, .slice none 0 0, .slice none 0 0] 49) := ⟨_, rfl⟩
    have HB : Hid (Boxes3 w W ⟨z0, z1, z2, z3, z4, z5, z6, z7, L8, L9, L10⟩ (.slice a8 L8.length c8) (.slice a9 L9.length c9) (.slice a10 L10.length c10) [.int .i64 x0, .int .i64 x1, .int .i64 x2]) := by show Boxes3 _ _ _ _ _ _ _; rw [hW]; exact boxes3 w ⟨z0, z1, z2, z3, z4, z5, z6, z7, L8, L9, L10⟩ (.slice a8 L8.length c8) (.slice a9 L9.length c9) (.slice a10 L10.length c10) [.int .i64 x0, .int .i64 x1, .int .i64 x2] 116 (by simp)
    have UW := hid (hU.below HB.out.b rfl)
    have HU := hid hU
    have HW := hid hW
    have HBS := hid HB.out.s
    clear hW hU
    have GB : Hid (BoxL W w.heap.size [.int .i64 z0, .int .i64 z1, .int .i64 z2, .int .i64 z3, .int .i64 z4, .int .i64 z5, .int .i64 z6, .int .i64 z7, .slice a8 L8.length c8, .slice a9 L9.length c9, .slice a10 L10.length c10]) := HB.out.g
    have RB := hid HB.out.r
    have XB := hid HB.out.x
    have MM : Hid (Mv w W (.slice a8 L8.length c8) (.slice a9 L9.length c9) (.slice a10 L10.length c10) (.slice a8 L8.length c8) (.slice a9 L9.length c9) (.slice a10 L10.length c10)) := (Mv.refl w _ _ _).old (P := fun _ => False) (But.of HB.out.b) fun _ h => h.elim
    have HBL : Hid (w.heap.size + 3 ≤ W.heap.size) := by show _ ≤ _; have := HBS.out; omega
    have HXB : Hid (¬ Bk (.slice a8 L8.length c8) (.slice a9 L9.length c9) (.slice a10 L10.length c10) (w.heap.size + 1)) := HU.out.notBk (by omega)
    have HNB : Hid (¬ Bk (.slice a8 L8.length c8) (.slice a9 L9.length c9) (.slice a10 L10.length c10) w.heap.size) := HU.out.notBk (Nat.le_refl _)
    have HNR : Hid (¬ Bk (.slice a8 L8.length c8) (.slice a9 L9.length c9) (.slice a10 L10.length c10) (w.heap.size + 2)) := HU.out.notBk (by omega)
    obtain ⟨q0, q1, q2, q3, q4, q5, q6, q7, q8, q9, q10⟩ := GB.out.eleven
    obtain ⟨g0, g1, g2, g3, g4, g5, g6, g7, g8, g9, g10⟩ := GB.out.frozen11
    obtain ⟨r0, r1, r2, r3, r4, r5, r6, r7, r8, r9, r10⟩ := RB.out.eleven
    obtain ⟨f0, f1, f2, f3, f4, f5, f6, f7, f8, f9, f10⟩ := RB.out.frozen11
    obtain ⟨p0, p1, p2⟩ := XB.out.three
    go_enter Try.func88, Try.ntmps88
    go_upto_region 1 with fail
    rw [← HW.out]
    clear HW
    have LF := gr_leaf (D := ⟨z0, z1, z2, z3, z4, z5, z6, z7, L8, L9, L10⟩) RB.out UW.out MM.out (b := (w.heap.size + 2)) (by have := HBS.out; omega) HNR.out
    dsimp only at LF
    have HL := hid LF.1
    obtain ⟨t0, t1, t2, t3, t4, t5, t6, t7, t8, t9, t10⟩ := LF.2.eleven
    clear LF
    go_wp2
    exact bodyPost_ret (v := grV ⟨z0, z1, z2, z3, z4, z5, z6, z7, L8, L9, L10⟩ (.slice a8 L8.length c8) (.slice a9 L9.length c9) (.slice a10 L10.length c10)) (by simp [results, Try.results88, go_sem, t0, t1, t2, t3, t4, t5, t6, t7, t8, t9, t10]) rfl ⟨_, rfl, _, _, _, rfl, HL.out⟩
end Go.Proofs.Ytdlkilacnnjglaa
namespace Go.Proofs.Ytdlkilacnnjglaa
open Go.RowKit

theorem l15Take_any (L : Nat) (D : GrD) (x : HeEl) (v8 v9 v10 : Value) (w : World) (hL : L ≤ w.heap.size) (hU : RowsU L w v8 v9 v10 D.f8 D.f9 D.f10) (hy : 0 ≤ D.f7 ∧ D.f7 ≤ 1000) (h9 : D.f9.length < 300) (h10 : D.f10.length < 300) :
    Calls Try.prog 88 #[grV D v8 v9 v10, .agg #[.int .i64 x.1, .int .i64 x.2.1, .int .i64 x.2.2]] w fun e w' => ∃ u, e = .returned u ∧ Moved L w v8 v9 v10 (takG D x) u w' := by
  obtain ⟨z0, z1, z2, z3, z4, z5, z6, z7, L8, L9, L10⟩ := D
  obtain ⟨x0, x1, x2⟩ := x
  simp only at hU hy h9 h10 ⊢
  by_cases h1 : x0 = 1
  · subst h1
    by_cases hc : z1 = 2 ∨ z7 = 1000
    · have hE : takG ⟨z0, z1, z2, z3, z4, z5, z6, z7, L8, L9, L10⟩ (1, x1, x2) = ⟨z0, z1, z2, z3, z4, z5, z6, z7, L8, L9, L10⟩ := (if_pos rfl).trans (if_pos hc)
      rw [hE]
      exact stk_ask_no L x1 x2 z0 z1 z2 z3 z4 z5 z6 z7 L8 L9 L10 v8 v9 v10 w hL hU (z1 == 2) (z7 == 1000) rfl rfl (by simpa using hc)
    · have hE : takG ⟨z0, z1, z2, z3, z4, z5, z6, z7, L8, L9, L10⟩ (1, x1, x2) = wrG ⟨z0, 1, z2, z7 + 1, x1, z5, z6, z7 + 1, L8, L9, L10⟩ (2, x1, z7 + 1) := (if_pos rfl).trans (if_neg hc)
      rw [hE]
      exact stk_ask L x1 x2 z0 z1 z2 z3 z4 z5 z6 z7 L8 L9 L10 v8 v9 v10 w hL hU (z7 + 1) rfl hy (by simp; omega) (by simp; omega)
  by_cases h2 : x0 = 2
  · subst h2
    by_cases hA : z0 = 1 ∧ z2 = x1
    · obtain ⟨rfl, rfl⟩ := hA
      have hE : takG ⟨1, z1, z2, z3, z4, z5, z6, z7, L8, L9, L10⟩ (2, z2, x2) = wrG ⟨2, z1, z2, z3, z4, x2, z6, z7, L8, L9 ++ [(3, z2, x2)], L10⟩ (3, z2, x2) := by simp [takG, tkBoth, opA]
      rw [hE]
      exact stk_open L x2 z1 z2 z3 z4 z5 z6 z7 L8 L9 L10 v8 v9 v10 w hL hU h9
    by_cases hB : z0 = 2 ∧ z2 = x1 ∧ z5 = x2
    · obtain ⟨rfl, rfl, rfl⟩ := hB
      have hE : takG ⟨2, z1, z2, z3, z4, z5, z6, z7, L8, L9, L10⟩ (2, z2, z5) = wrG ⟨2, z1, z2, z3, z4, z5, z6, z7, L8, L9, L10⟩ (3, z2, z5) := by simp [takG, tkBoth, opA]
      rw [hE]
      exact stk_both L z1 z2 z3 z4 z5 z6 z7 L8 L9 L10 v8 v9 v10 w hL hU
    have hE : takG ⟨z0, z1, z2, z3, z4, z5, z6, z7, L8, L9, L10⟩ (2, x1, x2) = ⟨z0, z1, z2, z3, z4, z5, z6, z7, L8, L9, L10⟩ := by
      have ho : opA ⟨z0, z1, z2, z3, z4, z5, z6, z7, L8, L9, L10⟩ x1 x2 = ⟨z0, z1, z2, z3, z4, z5, z6, z7, L8, L9, L10⟩ := if_neg hA
      show tkBoth _ _ _ = _
      unfold tkBoth
      rw [ho]
      exact if_neg hB
    rw [hE]
    refine stk_none L x1 x2 z0 z1 z2 z3 z4 z5 z6 z7 L8 L9 L10 v8 v9 v10 w hL hU (z0 == 1) (z2 == x1) (z0 == 2) (z5 == x2) rfl rfl rfl rfl ?_ ?_
    · rw [Bool.eq_false_iff]; intro h; simp at h; exact hA h
    · rw [Bool.eq_false_iff]; intro h; simp at h; exact hB h
  have e1 : (x0 == 1) = false := by simp; omega
  have e2 : (x0 == 2) = false := by simp; omega
  by_cases hA : z1 = 1 ∧ z4 = x1 ∧ z3 = x2
  · obtain ⟨rfl, rfl, rfl⟩ := hA
    have hE : takG ⟨z0, 1, z2, z3, z4, z5, z6, z7, L8, L9, L10⟩ (x0, z4, z3) = ⟨z0, 2, z2, z3, z4, z5, z6, z7, L8, L9, L10 ++ [(3, z4, z3)]⟩ := (if_neg h1).trans ((if_neg h2).trans (if_pos ⟨rfl, rfl, rfl⟩))
    rw [hE]
    exact stk_ack L x0 z0 z2 z3 z4 z5 z6 z7 L8 L9 L10 v8 v9 v10 w hL hU h10 e1 e2
  · have hE : takG ⟨z0, z1, z2, z3, z4, z5, z6, z7, L8, L9, L10⟩ (x0, x1, x2) = ⟨z0, z1, z2, z3, z4, z5, z6, z7, L8, L9, L10⟩ := (if_neg h1).trans ((if_neg h2).trans (if_neg hA))
    rw [hE]
    refine stk_ack_no L x0 x1 x2 z0 z1 z2 z3 z4 z5 z6 z7 L8 L9 L10 v8 v9 v10 w hL hU e1 e2 (z1 == 1) (z4 == x1) (z3 == x2) rfl rfl rfl ?_
    rw [Bool.eq_false_iff]; intro h; simp at h; exact hA h
end Go.Proofs.Ytdlkilacnnjglaa
namespace Go.Proofs.Ytdlkilacnnjglaa
open Go.RowKit

theorem l15Take_E (L : Nat) (D : GrD) (x : HeEl) (E : GrD) (v8 v9 v10 : Value) (w : World) (hL : L ≤ w.heap.size) (hU : RowsU L w v8 v9 v10 D.f8 D.f9 D.f10) (hy : 0 ≤ D.f7 ∧ D.f7 ≤ 1000) (h9 : D.f9.length < 300) (h10 : D.f10.length < 300) (hE : takG D x = E) :
    Calls Try.prog 88 #[grV D v8 v9 v10, .agg #[.int .i64 x.1, .int .i64 x.2.1, .int .i64 x.2.2]] w fun e w' => ∃ u, e = .returned u ∧ Moved L w v8 v9 v10 E u w' := hE ▸ l15Take_any L D x v8 v9 v10 w hL hU hy h9 h10
end Go.Proofs.Ytdlkilacnnjglaa
