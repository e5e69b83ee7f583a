/-
  spec.l15Opened: what came to be open put behind a row of one's own.
  spec.l15Take: one way of it.
  spec.l15Take: one way of it.
-/
import Derived.Test.YtdlkilacnnjglaaPut11
import Derived.Deep.DeepCutAuto
import Derived.Test.YtdlkilacnnjglaaSWr15
namespace Go.Proofs.Ytdlkilacnnjglaa
open Go.RowKit

theorem grownA {w w1 : World} {o : Obj} {row : Option Nat} (h : (w.alloc o).grownBy w1 row) : w.grownBy w1 row := (World.grownBy_alloc w o row).trans h
set_option maxRecDepth 100000 in
set_option maxHeartbeats 4000000 in
theorem l15Opened_any (L : Nat) (v : Value) (xs : List HeEl) (a b : Int) (w : World) (hL : L ≤ w.heap.size) (ho : w.ownsRow L 116 3 v xs.length (heflat xs)) (hl : xs.length < 300) :
    Calls Try.prog 103 #[v, .int .i64 a, .int .i64 b] w fun e w' => ∃ au cu m, e = .returned (.slice au (xs.length + 1) cu) ∧ w'.ownsRow L 116 3 (.slice au (xs.length + 1) cu) (xs.length + 1) (heflat (xs ++ [(3, a, b)])) ∧ w.grownBy w' v.ownBlock ∧ ((Value.slice au (xs.length + 1) cu).ownBlock = v.ownBlock ∨ (Value.slice au (xs.length + 1) cu).ownBlock = some m) ∧ w.heap.size ≤ m := by
  obtain ⟨av, cv, rfl, _⟩ := heowns_form ho
  have hd : ((xs.length : Int) == 300) = false := by simp; omega
  have HO := hid (heowns_at (w' := w.alloc (.cells #[.int .i64 3, .int .i64 a, .int .i64 b] 116)) ho fun g _ hlt => ((Below.refl w.heap.size w).alloc (Nat.le_refl _) _).block g hlt)
  clear ho
  go_enter Try.func103, Try.ntmps103
  go_wp2_with (at_builtin; refine wpList_append_he _ rfl _ _ rfl L _ xs.length xs rfl HO.out _ [(3, a, b)] rfl (hereads_one w (3, a, b) _) (by simp; omega) (by rw [World.size_alloc]; omega) ?_)
  intro u w1 ho hg hat
  obtain ⟨au, cu, rfl, _⟩ := heowns_form (n := xs.length + 1) ho
  have HO1 : Hid (w1.ownsRow L 116 3 (.slice au (xs.length + 1) cu) (xs.length + 1) (heflat (xs ++ [(3, a, b)]))) := ho
  have HG := hid (grownA hg)
  have HA : Hid ((Value.slice au (xs.length + 1) cu).ownBlock = (Value.slice av xs.length cv).ownBlock ∨ (Value.slice au (xs.length + 1) cu).ownBlock = some (w.heap.size + 1)) := by
    rcases hat with h | h
    · exact .inl h
    · exact .inr (h.trans (by simp))
  clear ho hg hat
  go_wp2
  go_ret
  exact ⟨au, cu, _, rfl, HO1.out, HG.out, HA.out, by omega⟩
end Go.Proofs.Ytdlkilacnnjglaa
namespace Go.Proofs.Ytdlkilacnnjglaa
open Go.RowKit

set_option maxRecDepth 100000 in
set_option maxHeartbeats 8000000 in
theorem stk_ask_no (L : Nat) (x1 x2 z0 z1 z2 z3 z4 z5 z6 z7 : Int) (L8 L9 L10 : List HeEl) (v8 v9 v10 : Value) (w : World) (hL : L ≤ w.heap.size) (hU : RowsU L w v8 v9 v10 L8 L9 L10) (s1 s7 : Bool) (hs1 : (z1 == 2) = s1) (hs7 : (z7 == 1000) = s7) (hc : (s1 || s7) = true) :
    Calls Try.prog 88 #[.agg #[.int .i64 z0, .int .i64 z1, .int .i64 z2, .int .i64 z3, .int .i64 z4, .int .i64 z5, .int .i64 z6, .int .i64 z7, v8, v9, v10], .agg #[.int .i64 1, .int .i64 x1, .int .i64 x2]] w fun e w' => ∃ u, e = .returned u ∧ Moved L w v8 v9 v10 ⟨z0, z1, z2, z3, z4, z5, z6, z7, L8, L9, L10⟩ u w' := by
  have HC := hid hc
  clear hc
  cases s1 <;> cases s7
  case false.false => exact absurd HC.out (by decide)
  all_goals
    have _hL := hL
    obtain ⟨a8, c8, a9, c9, a10, c10, rfl, rfl, rfl⟩ := hU.form
    obtain ⟨W, hW⟩ : ∃ W, W = ((w.alloc (.cells #[.int .i64 z0, .int .i64 z1, .int .i64 z2, .int .i64 z3, .int .i64 z4, .int .i64 z5, .int .i64 z6, .int .i64 z7, .slice a8 L8.length c8, .slice a9 L9.length c9, .slice a10 L10.length c10] 49)).alloc (.cells #[.int .i64 1, .int .i64 x1, .int .i64 x2] 116)).alloc (.cells #[.int .i64 0, .int .i64 0, .int .i64 0, .int .i64 0, .int .i64 0, .int .i64 0, .int .i64 0, .int .i64 0, .slice none 0 0, .slice none 0 0, .slice none 0 0] 49) := ⟨_, rfl⟩
    have HB : Hid (Boxes3 w W ⟨z0, z1, z2, z3, z4, z5, z6, z7, L8, L9, L10⟩ (.slice a8 L8.length c8) (.slice a9 L9.length c9) (.slice a10 L10.length c10) [.int .i64 1, .int .i64 x1, .int .i64 x2]) := by show Boxes3 _ _ _ _ _ _ _; rw [hW]; exact boxes3 w ⟨z0, z1, z2, z3, z4, z5, z6, z7, L8, L9, L10⟩ (.slice a8 L8.length c8) (.slice a9 L9.length c9) (.slice a10 L10.length c10) [.int .i64 1, .int .i64 x1, .int .i64 x2] 116 (by simp)
    have UW := hid (hU.below HB.out.b rfl)
    have HU := hid hU
    have HW := hid hW
    have HBS := hid HB.out.s
    clear hW hU
    have GB : Hid (BoxL W w.heap.size [.int .i64 z0, .int .i64 z1, .int .i64 z2, .int .i64 z3, .int .i64 z4, .int .i64 z5, .int .i64 z6, .int .i64 z7, .slice a8 L8.length c8, .slice a9 L9.length c9, .slice a10 L10.length c10]) := HB.out.g
    have RB := hid HB.out.r
    have XB := hid HB.out.x
    have MM : Hid (Mv w W (.slice a8 L8.length c8) (.slice a9 L9.length c9) (.slice a10 L10.length c10) (.slice a8 L8.length c8) (.slice a9 L9.length c9) (.slice a10 L10.length c10)) := (Mv.refl w _ _ _).old (P := fun _ => False) (But.of HB.out.b) fun _ h => h.elim
    have HBL : Hid (w.heap.size + 3 ≤ W.heap.size) := by show _ ≤ _; have := HBS.out; omega
    have HXB : Hid (¬ Bk (.slice a8 L8.length c8) (.slice a9 L9.length c9) (.slice a10 L10.length c10) (w.heap.size + 1)) := HU.out.notBk (by omega)
    have HNB : Hid (¬ Bk (.slice a8 L8.length c8) (.slice a9 L9.length c9) (.slice a10 L10.length c10) w.heap.size) := HU.out.notBk (Nat.le_refl _)
    have HNR : Hid (¬ Bk (.slice a8 L8.length c8) (.slice a9 L9.length c9) (.slice a10 L10.length c10) (w.heap.size + 2)) := HU.out.notBk (by omega)
    obtain ⟨q0, q1, q2, q3, q4, q5, q6, q7, q8, q9, q10⟩ := GB.out.eleven
    obtain ⟨g0, g1, g2, g3, g4, g5, g6, g7, g8, g9, g10⟩ := GB.out.frozen11
    obtain ⟨r0, r1, r2, r3, r4, r5, r6, r7, r8, r9, r10⟩ := RB.out.eleven
    obtain ⟨f0, f1, f2, f3, f4, f5, f6, f7, f8, f9, f10⟩ := RB.out.frozen11
    obtain ⟨p0, p1, p2⟩ := XB.out.three
    go_enter Try.func88, Try.ntmps88
    go_upto_region 1 with fail
    rw [← HW.out]
    clear HW
    have LF := gr_leaf (D := ⟨z0, z1, z2, z3, z4, z5, z6, z7, L8, L9, L10⟩) RB.out UW.out MM.out (b := (w.heap.size + 2)) (by have := HBS.out; omega) HNR.out
    dsimp only at LF
    have HL := hid LF.1
    obtain ⟨t0, t1, t2, t3, t4, t5, t6, t7, t8, t9, t10⟩ := LF.2.eleven
    clear LF
    go_wp2
    exact bodyPost_ret (v := grV ⟨z0, z1, z2, z3, z4, z5, z6, z7, L8, L9, L10⟩ (.slice a8 L8.length c8) (.slice a9 L9.length c9) (.slice a10 L10.length c10)) (by simp [results, Try.results88, go_sem, t0, t1, t2, t3, t4, t5, t6, t7, t8, t9, t10]) rfl ⟨_, rfl, _, _, _, rfl, HL.out⟩
end Go.Proofs.Ytdlkilacnnjglaa
namespace Go.Proofs.Ytdlkilacnnjglaa
open Go.RowKit

set_option maxRecDepth 100000 in
set_option maxHeartbeats 8000000 in
theorem stk_both (L : Nat) (z1 z2 z3 z4 z5 z6 z7 : Int) (L8 L9 L10 : List HeEl) (v8 v9 v10 : Value) (w : World) (hL : L ≤ w.heap.size) (hU : RowsU L w v8 v9 v10 L8 L9 L10) :
    Calls Try.prog 88 #[.agg #[.int .i64 2, .int .i64 z1, .int .i64 z2, .int .i64 z3, .int .i64 z4, .int .i64 z5, .int .i64 z6, .int .i64 z7, v8, v9, v10], .agg #[.int .i64 2, .int .i64 z2, .int .i64 z5]] w fun e w' => ∃ u, e = .returned u ∧ Moved L w v8 v9 v10 (wrG ⟨2, z1, z2, z3, z4, z5, z6, z7, L8, L9, L10⟩ (3, z2, z5)) u w' := by
  obtain ⟨E, hE2⟩ : ∃ E, wrG ⟨2, z1, z2, z3, z4, z5, z6, z7, L8, L9, L10⟩ (3, z2, z5) = E := ⟨_, rfl⟩
  rw [hE2]
  have HE := hid hE2
  clear hE2
  obtain ⟨a8, c8, a9, c9, a10, c10, rfl, rfl, rfl⟩ := hU.form
  obtain ⟨W, hW⟩ : ∃ W, W = ((w.alloc (.cells #[.int .i64 2, .int .i64 z1, .int .i64 z2, .int .i64 z3, .int .i64 z4, .int .i64 z5, .int .i64 z6, .int .i64 z7, .slice a8 L8.length c8, .slice a9 L9.length c9, .slice a10 L10.length c10] 49)).alloc (.cells #[.int .i64 2, .int .i64 z2, .int .i64 z5] 116)).alloc (.cells #[.int .i64 0, .int .i64 0, .int .i64 0, .int .i64 0, .int .i64 0, .int .i64 0, .int .i64 0, .int .i64 0, .slice none 0 0, .slice none 0 0, .slice none 0 0] 49) := ⟨_, rfl⟩
  have HB : Hid (Boxes3 w W ⟨2, z1, z2, z3, z4, z5, z6, z7, L8, L9, L10⟩ (.slice a8 L8.length c8) (.slice a9 L9.length c9) (.slice a10 L10.length c10) [.int .i64 2, .int .i64 z2, .int .i64 z5]) := by show Boxes3 _ _ _ _ _ _ _; rw [hW]; exact boxes3 w ⟨2, z1, z2, z3, z4, z5, z6, z7, L8, L9, L10⟩ (.slice a8 L8.length c8) (.slice a9 L9.length c9) (.slice a10 L10.length c10) [.int .i64 2, .int .i64 z2, .int .i64 z5] 116 (by simp)
  have UW := hid (hU.below HB.out.b rfl)
  have HU := hid hU
  have HW := hid hW
  have HBS := hid HB.out.s
  clear hW hU
  have GB : Hid (BoxL W w.heap.size [.int .i64 2, .int .i64 z1, .int .i64 z2, .int .i64 z3, .int .i64 z4, .int .i64 z5, .int .i64 z6, .int .i64 z7, .slice a8 L8.length c8, .slice a9 L9.length c9, .slice a10 L10.length c10]) := HB.out.g
  have RB := hid HB.out.r
  have XB := hid HB.out.x
  have MM : Hid (Mv w W (.slice a8 L8.length c8) (.slice a9 L9.length c9) (.slice a10 L10.length c10) (.slice a8 L8.length c8) (.slice a9 L9.length c9) (.slice a10 L10.length c10)) := (Mv.refl w _ _ _).old (P := fun _ => False) (But.of HB.out.b) fun _ h => h.elim
  have HBL : Hid (w.heap.size + 3 ≤ W.heap.size) := by show _ ≤ _; have := HBS.out; omega
  have HXB : Hid (¬ Bk (.slice a8 L8.length c8) (.slice a9 L9.length c9) (.slice a10 L10.length c10) (w.heap.size + 1)) := HU.out.notBk (by omega)
  have HNB : Hid (¬ Bk (.slice a8 L8.length c8) (.slice a9 L9.length c9) (.slice a10 L10.length c10) w.heap.size) := HU.out.notBk (Nat.le_refl _)
  have HNR : Hid (¬ Bk (.slice a8 L8.length c8) (.slice a9 L9.length c9) (.slice a10 L10.length c10) (w.heap.size + 2)) := HU.out.notBk (by omega)
  obtain ⟨q0, q1, q2, q3, q4, q5, q6, q7, q8, q9, q10⟩ := GB.out.eleven
  obtain ⟨g0, g1, g2, g3, g4, g5, g6, g7, g8, g9, g10⟩ := GB.out.frozen11
  obtain ⟨r0, r1, r2, r3, r4, r5, r6, r7, r8, r9, r10⟩ := RB.out.eleven
  obtain ⟨f0, f1, f2, f3, f4, f5, f6, f7, f8, f9, f10⟩ := RB.out.frozen11
  obtain ⟨p0, p1, p2⟩ := XB.out.three
  go_enter Try.func88, Try.ntmps88
  go_upto_region 1 with fail
  rw [← HW.out]
  clear HW
  go_wp2_with fail
  refine (l15Write_E L ⟨2, z1, z2, z3, z4, z5, z6, z7, L8, L9, L10⟩ (3, z2, z5) E _ _ _ _ (Nat.le_trans hL MM.out.but.size) UW.out HE.out).mono ?_
  rintro e w2 ⟨u, rfl, u8, u9, u10, rfl, U2, M2⟩
  obtain ⟨b8, d8, b9, d9, b10, d10, rfl, rfl, rfl⟩ := U2.form
  clear q0 q1 q2 q3 q4 q5 q6 q7 q8 q9 q10 g0 g1 g2 g3 g4 g5 g6 g7 g8 g9 g10 r0 r1 r2 r3 r4 r5 r6 r7 r8 r9 r10 f0 f1 f2 f3 f4 f5 f6 f7 f8 f9 f10 p0 p1 p2
  have hl2 := RB.out.lt
  replace RB := hid (RB.out.mv M2 HNR.out)
  replace HNR := hid (M2.notBk HNR.out hl2)
  replace MM := hid (MM.out.trans M2)
  replace UW := hid U2
  clear U2 M2 hl2
  obtain ⟨r0, r1, r2, r3, r4, r5, r6, r7, r8, r9, r10⟩ := RB.out.eleven
  obtain ⟨f0, f1, f2, f3, f4, f5, f6, f7, f8, f9, f10⟩ := RB.out.frozen11
  have LF := gr_leaf (D := E) RB.out UW.out MM.out (b := (w.heap.size + 2)) (by omega) HNR.out
  have HL := hid LF.1
  obtain ⟨t0, t1, t2, t3, t4, t5, t6, t7, t8, t9, t10⟩ := LF.2.eleven
  clear LF
  go_wp2
  exact bodyPost_ret (v := grV E (.slice b8 E.f8.length d8) (.slice b9 E.f9.length d9) (.slice b10 E.f10.length d10)) (by simp [results, Try.results88, go_sem, t0, t1, t2, t3, t4, t5, t6, t7, t8, t9, t10]) rfl ⟨_, rfl, _, _, _, rfl, HL.out⟩
end Go.Proofs.Ytdlkilacnnjglaa
