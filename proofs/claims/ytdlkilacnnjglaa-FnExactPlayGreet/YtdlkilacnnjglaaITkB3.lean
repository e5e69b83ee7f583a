/-
  impl's (*Greet).takeBoth: A comes to be open.
-/
import Derived.Test.YtdlkilacnnjglaaIWrG
namespace Go.Proofs.Ytdlkilacnnjglaa
open Go.RowKit Go.Sort

set_option maxRecDepth 100000 in
set_option maxHeartbeats 16000000 in
theorem itakeBoth_open (L b : Nat) (D : GrD) (v8 v9 v10 : Value) (x y : Int) (w : World) (hL : L ≤ w.heap.size) (hG : GrX L b w D v8 v9 v10) (h0 : (D.f0 == 1) = true) (h2 : (D.f2 == x) = true) (hn : D.f8.length ≤ 30) (hl : D.f9.length < 300) :
    Calls Try.prog 129 #[.pointer (some ⟨b, 0, none⟩), .agg #[.int .i64 x, .int .i64 y]] w fun e w' => e = .returned (.tuple #[]) ∧ Left L b w v8 v9 v10 (wrG { D with f0 := 2, f5 := y, f9 := D.f9 ++ [(3, x, y)] } (3, x, y)) w' := by
  obtain ⟨a8, c8, a9, c9, a10, c10, rfl, rfl, rfl⟩ := hG.rows.form
  have hlt := hG.box.lt
  have bA : Below w.heap.size w ((w.alloc (.cells #[.int .i64 x, .int .i64 y] 152)).alloc (.cells #[.int .i64 x, .int .i64 y] 153)) := ((Below.refl _ _).alloc (Nat.le_refl _) _).alloc (by simp) _
  have hs1 : (w.alloc (.cells #[.int .i64 x, .int .i64 y] 152)).heap.size = w.heap.size + 1 := by simp
  have HL := hid ((boxL_new w [.int .i64 x, .int .i64 y] 152).below ((Below.refl (w.heap.size + 1) (w.alloc (.cells #[.int .i64 x, .int .i64 y] 152))).alloc (by simp) (.cells #[.int .i64 x, .int .i64 y] 153)) (by omega))
  have HK := hid (boxL_new (w.alloc (.cells #[.int .i64 x, .int .i64 y] 152)) [.int .i64 x, .int .i64 y] 153)
  rw [hs1] at HK
  have HW := hid (hG.below bA rfl)
  have FARL : Hid (¬ Bk (.slice a8 D.f8.length c8) (.slice a9 D.f9.length c9) (.slice a10 D.f10.length c10) w.heap.size) := hG.rows.notBk (Nat.le_refl _)
  have FARK : Hid (¬ Bk (.slice a8 D.f8.length c8) (.slice a9 D.f9.length c9) (.slice a10 D.f10.length c10) (w.heap.size + 1)) := hG.rows.notBk (by omega)
  have HM := hid ((XMv.refl b w (.slice a8 D.f8.length c8) (.slice a9 D.f9.length c9) (.slice a10 D.f10.length c10)).grow bA rfl)
  obtain ⟨W, hW⟩ : ∃ W, W = ((w.alloc (.cells #[.int .i64 x, .int .i64 y] 152)).alloc (.cells #[.int .i64 x, .int .i64 y] 153)) := ⟨_, rfl⟩
  rw [← hW] at HW HM HL HK
  have HWW := hid hW
  clear hG bA hW hs1
  obtain ⟨p0, p1, p2, p3, p4, p5, p6, p7, p8, p9, p10⟩ := HW.out.box.eleven
  obtain ⟨y0, y1⟩ := HL.out.two
  obtain ⟨k0, k1⟩ := HK.out.two
  have j0 := fun dd os => cell_regrown p0 dd os
  have j1 := fun dd os => cell_regrown p1 dd os
  have j2 := fun dd os => cell_regrown p2 dd os
  have j3 := fun dd os => cell_regrown p3 dd os
  have j4 := fun dd os => cell_regrown p4 dd os
  have j5 := fun dd os => cell_regrown p5 dd os
  have j6 := fun dd os => cell_regrown p6 dd os
  have j7 := fun dd os => cell_regrown p7 dd os
  have j8 := fun dd os => cell_regrown p8 dd os
  have j9 := fun dd os => cell_regrown p9 dd os
  have j10 := fun dd os => cell_regrown p10 dd os
  have l0 := fun dd os => cell_regrown y0 dd os
  have l1 := fun dd os => cell_regrown y1 dd os
  have m0 := fun dd os => cell_regrown k0 dd os
  have m1 := fun dd os => cell_regrown k1 dd os
  go_enter Try.func129, Try.ntmps129
  go_upto_region 2 with fail
  rw [← HWW.out]
  refine wp_region_quiet_below (by kernel_rfl) (by kernel_rfl) ?_
  repeat (go_big_quiet_step (fail))
  refine wpQuiet_nil ?_
  intro _ hw'
  obtain ⟨⟨dq, osq⟩, hw''⟩ := hw'
  subst hw''
  obtain ⟨V, hV⟩ : ∃ X0, X0 = grow (redrawn W dq) osq := ⟨_, rfl⟩
  have bV := below_regrown W dq osq
  rw [← hV] at bV ⊢
  replace HW := hid (HW.out.below bV rfl)
  replace HM := hid (HM.out.grow bV rfl)
  replace HL := hid (HL.out.below bV HL.out.lt)
  replace HK := hid (HK.out.below bV HK.out.lt)
  clear hV bV
  clear j0 p0 j1 p1 j2 p2 j3 p3 j4 p4 j5 p5 j6 p6 j7 p7 j8 p8 j9 p9 j10 p10 l0 l1 m0 m1 y0 y1 k0 k1
  have q := HW.out.box.eleven
  obtain ⟨q0, q1, q2, q3, q4, q5, q6, q7, q8, q9, q10⟩ := q
  obtain ⟨g0, g1, g2, g3, g4, g5, g6, g7, g8, g9, g10⟩ := HW.out.box.frozen11
  obtain ⟨y0, y1⟩ := HL.out.two
  obtain ⟨k0, k1⟩ := HK.out.two
  have hlb : w.heap.size ≠ b := by omega
  have hlk : w.heap.size + 1 ≠ b := by omega
  have hbl : b ≠ w.heap.size := by omega
  have hbk : b ≠ w.heap.size + 1 := by omega
  have H1 := HW.out.put (j := 0) (D' := { D with f0 := 2 }) (.int .i64 2) (by decide) rfl rfl rfl rfl
  replace HW := hid (H1.put (j := 5) (D' := { D with f0 := 2, f5 := y }) (.int .i64 y) (by decide) rfl rfl rfl rfl).drew
  replace HM := hid ((HM.out.set (j := 0) (.int .i64 2)).set (j := 5) (.int .i64 y)).drew
  have bX : But (fun k => k = b) V (((V.setCell ⟨b, 0, none⟩ (.int .i64 2)).setCell ⟨b, 5, none⟩ (.int .i64 y)).drew) := (((But.refl (fun k => k = b) V).setCell (P := fun k => k = b) (p := ⟨b, 0, none⟩) rfl _).setCell (P := fun k => k = b) (p := ⟨b, 5, none⟩) rfl _).drew
  replace HL := hid (HL.out.but bX hlb)
  replace HK := hid (HK.out.but bX hlk)
  clear H1 bX
  go_wp2_with fail
  go_region
  obtain ⟨V2, hV2⟩ : ∃ V2, V2 = ((V.setCell ⟨b, 0, none⟩ (.int .i64 2)).setCell ⟨b, 5, none⟩ (.int .i64 y)).drew := ⟨_, rfl⟩
  rw [← hV2] at HW HM HL HK
  have HV2 := hid hV2
  clear hV2
  go_upto_region 4 with fail
  rw [← HV2.out]
  clear HV2 q0 q1 q2 q3 q4 q5 q6 q7 q8 q9 q10 g0 g1 g2 g3 g4 g5 g6 g7 g8 g9 g10 y0 y1 k0 k1
  have hLV : L ≤ V2.heap.size := Nat.le_trans hL HM.out.but.size
  have HLV := hid hLV
  clear hLV
  have q9 := (HW.out.box.cell 9 (by simp)).1
  change World.cell? _ _ = some (.slice a9 D.f9.length c9) at q9
  obtain ⟨k0, k1⟩ := HK.out.two
  go_region_law (first
    | (change (if Region.wanted (Oper.mk (some 36) _ _ _ _ _) _ = true then _ else _); rw [if_pos (by rfl)]; go_simp; refine (ihello_ack x y _).mono ?_; rintro e w2 ⟨rfl, b6⟩; have B2 : Hid (Below V2.heap.size V2 w2) := (Below.refl _ _).drew.trans b6; have G3 := hid ((HW.out.below B2.out rfl).below ((Below.refl w2.heap.size w2).alloc (Nat.le_refl _) (.cells #[.int .i64 3, .int .i64 x, .int .i64 y] 116)) rfl); have r8 := ((HW.out.below B2.out rfl).box.cell 9 (by simp)).1; change World.cell? _ _ = some (.slice a9 D.f9.length c9) at r8; have r8b := (G3.out.box.cell 9 (by simp)).1; change World.cell? _ _ = some (.slice a9 D.f9.length c9) at r8b; clear b6)
    | (change (if Region.wanted (Oper.mk (some 38) _ _ _ _ _) _ = true then _ else _); refine step_append_he (by rfl) _ _ (by rfl) L _ D.f9.length D.f9 (by rfl) G3.out.rows.r9 _ [(3, x, y)] (by rfl) (hereads_one w2 (3, x, y) _) (by simp; omega) (Nat.le_trans HLV.out (Nat.le_trans B2.out.size (by simp))) ?_; intro u9 w4 ho hg hat; obtain ⟨a4, c4, rfl, _⟩ := heowns_form (n := D.f9.length + 1) ho; have AP := G3.out.app9 (x := (3, x, y)) (by show D.f9.length ≤ 300; omega) rfl ho hg hat (by simp); have r8n := AP.2.2.1; have f8n := AP.2.2.2; have HAP := hid AP.1; have HMV := hid (HM.out.trans (XMv.start (P := fun _ => False) (But.of (B2.out.alloc B2.out.size _)) (fun _ h => h.elim) AP.2.1)); have HL4 := hid (((HL.out.below B2.out HL.out.lt).below ((Below.refl w2.heap.size w2).alloc (Nat.le_refl _) (.cells #[.int .i64 3, .int .i64 x, .int .i64 y] 116)) (Nat.lt_of_lt_of_le HL.out.lt B2.out.size)).grownB hg (fun e => FARL.out (.inr (.inl e)))); have HK4 := hid (((HK.out.below B2.out HK.out.lt).below ((Below.refl w2.heap.size w2).alloc (Nat.le_refl _) (.cells #[.int .i64 3, .int .i64 x, .int .i64 y] 116)) (Nat.lt_of_lt_of_le HK.out.lt B2.out.size)).grownB hg (fun e => FARK.out (.inr (.inl e)))); clear AP ho hg hat))
  all_goals
    obtain ⟨V3, hV3⟩ : ∃ V3, V3 = w4.setCell ⟨b, 9, none⟩ (.slice a4 (D.f9.length + 1) c4) := ⟨_, rfl⟩
    have bY : But (fun k => k = b) w4 (w4.setCell ⟨b, 9, none⟩ (.slice a4 (D.f9.length + 1) c4)) := (But.refl (fun k => k = b) w4).setCell (P := fun k => k = b) (p := ⟨b, 9, none⟩) rfl _
    replace HL := hid (HL4.out.but bY hlb)
    replace HK := hid (HK4.out.but bY hlk)
    replace HW := HAP
    replace HM := HMV
    clear HAP HMV HL4 HK4 bY G3
    rw [← hV3] at HW HM HL HK
    have HV3 := hid hV3
    clear hV3
    go_upto_region 5 with fail
    rw [← HV3.out]
    clear HV3 r8n f8n q9 k0 k1
    obtain ⟨p0, p1, p2, p3, p4, p5, p6, p7, p8, p9, p10⟩ := HW.out.box.eleven
    change World.cell? _ _ = some (.int .i64 2) at p0
    change World.cell? _ _ = some (.int .i64 D.f1) at p1
    change World.cell? _ _ = some (.int .i64 D.f2) at p2
    change World.cell? _ _ = some (.int .i64 D.f3) at p3
    change World.cell? _ _ = some (.int .i64 D.f4) at p4
    change World.cell? _ _ = some (.int .i64 y) at p5
    change World.cell? _ _ = some (.int .i64 D.f6) at p6
    change World.cell? _ _ = some (.int .i64 D.f7) at p7
    obtain ⟨y0, y1⟩ := HL.out.two
    obtain ⟨k0, k1⟩ := HK.out.two
    have j0 := fun dd os => cell_regrown p0 dd os
    have j1 := fun dd os => cell_regrown p1 dd os
    have j2 := fun dd os => cell_regrown p2 dd os
    have j3 := fun dd os => cell_regrown p3 dd os
    have j4 := fun dd os => cell_regrown p4 dd os
    have j5 := fun dd os => cell_regrown p5 dd os
    have j6 := fun dd os => cell_regrown p6 dd os
    have j7 := fun dd os => cell_regrown p7 dd os
    have j8 := fun dd os => cell_regrown p8 dd os
    have j9 := fun dd os => cell_regrown p9 dd os
    have j10 := fun dd os => cell_regrown p10 dd os
    have l0 := fun dd os => cell_regrown y0 dd os
    have l1 := fun dd os => cell_regrown y1 dd os
    have m0 := fun dd os => cell_regrown k0 dd os
    have m1 := fun dd os => cell_regrown k1 dd os
    have c1 : ∀ dd os, Calls Try.prog 117 #[.agg #[.int .i64 2, .int .i64 D.f1, .int .i64 D.f2, .int .i64 D.f3, .int .i64 D.f4, .int .i64 y, .int .i64 D.f6, .int .i64 D.f7, .slice a8 D.f8.length c8, .slice a4 (D.f9.length + 1) c4, .slice a10 D.f10.length c10]] (grow (redrawn V3 dd) os) fun e w'' => e = .returned (.agg #[.int .i64 D.f2, .int .i64 y]) ∧ ∃ p : Regrown, w'' = grow (redrawn V3 p.d) p.os := fun dd os => Calls.regrown_of ((ipairA_eq _ _ _ _ _ _ _ _ _ _ _ _ _ rfl rfl _).mono fun e w' h => ⟨h.1, h.2⟩)
    refine wp_region_quiet_below (by kernel_rfl) (by kernel_rfl) ?_
    repeat (go_big_quiet_step (first | exact c1 _ _))
    refine wpQuiet_nil ?_
    intro _ hw'
    obtain ⟨⟨dq, osq⟩, hw''⟩ := hw'
    subst hw''
    obtain ⟨V4, hV⟩ : ∃ X0, X0 = grow (redrawn V3 dq) osq := ⟨_, rfl⟩
    have bV := below_regrown V3 dq osq
    rw [← hV] at bV ⊢
    replace HW := hid (HW.out.below bV rfl)
    replace HM := hid (HM.out.grow bV rfl)
    replace HL := hid (HL.out.below bV HL.out.lt)
    replace HK := hid (HK.out.below bV HK.out.lt)
    clear hV bV
    clear j0 p0 j1 p1 j2 p2 j3 p3 j4 p4 j5 p5 j6 p6 j7 p7 j8 p8 j9 p9 j10 p10 l0 l1 m0 m1 y0 y1 k0 k1
    clear c1
    obtain ⟨y0, y1⟩ := HL.out.two
    obtain ⟨k0, k1⟩ := HK.out.two
    go_wp2_with fail
    refine (iwrite_any L b _ (3, x, y) _ _ _ _ (Nat.le_trans hL HM.out.but.size) HW.out (by show (1 : Int) ≤ 3 ∧ (3 : Int) ≤ 3; decide) (fun h => absurd h (by show ¬ (3 : Int) = 1; decide)) hn).mono ?_
    rintro e w1 ⟨rfl, u8, u9, u10, hg, hm⟩
    have HG := hid hg
    have HX := hid (HM.out.trans hm)
    clear hg hm
    go_wp2
    go_end0
    exact ⟨rfl, _, _, _, HG.out, HX.out⟩
end Go.Proofs.Ytdlkilacnnjglaa
