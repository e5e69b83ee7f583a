/-
  impl's (*Greet).write, whatever the letter.
  A greeting's other rows grown in its box. Plain facts on the memory.
  impl's (*Greet).takeAck: an ack is taken.
  impl's (*Greet).takeAck: an ack by which B is open.
  impl's (*Greet).begin: A asks.
-/
import Derived.Test.YtdlkilacnnjglaaIBoxG
import Derived.Deep.RegionWith
import Derived.Deep.RegionLawGrows
import Derived.Deep.DeepCutAuto
import Derived.Lib.QuietBelow
import Derived.BigQuiet
namespace Go.Proofs.Ytdlkilacnnjglaa
open Go.RowKit

theorem iwrite_any (L b : Nat) (D : GrD) (x : HeEl) (v8 v9 v10 : Value) (w : World) (hL : L ≤ w.heap.size) (hG : GrX L b w D v8 v9 v10) (hx : 1 ≤ x.1 ∧ x.1 ≤ 3) (h1 : x.1 = 1 → x.2.2 = 0) (hn : D.f8.length ≤ 30) :
    Calls Try.prog 123 #[.pointer (some ⟨b, 0, none⟩), lv x] w fun e w' => e = .returned (.bool (decide (D.f8.length < 30))) ∧ Left L b w v8 v9 v10 (wrG D x) w' := by
  by_cases hlt : D.f8.length < 30
  · have hE : wrG D x = { D with f8 := D.f8 ++ [x] } := if_pos hlt
    rw [hE, decide_eq_true hlt]
    obtain ⟨k, a, c⟩ := x
    simp only at hx h1
    rcases (by omega : k = 1 ∨ k = 2 ∨ k = 3) with rfl | rfl | rfl
    · obtain rfl : c = 0 := h1 rfl
      exact iwrite_ask L b D v8 v9 v10 a w hL hG hlt
    · exact iwrite_both L b D v8 v9 v10 a c w hL hG hlt
    · exact iwrite_ack L b D v8 v9 v10 a c w hL hG hlt
  · have hE : wrG D x = D := if_neg hlt
    rw [hE, decide_eq_false hlt]
    exact (iwrite_no L b D v8 v9 v10 (lv x) w hG (by omega)).mono fun e w' ⟨he, hw⟩ => ⟨he, by subst hw; exact ⟨v8, v9, v10, hG, XMv.refl _ _ _ _ _⟩⟩
end Go.Proofs.Ytdlkilacnnjglaa
namespace Go.Proofs.Ytdlkilacnnjglaa
open Go.RowKit

theorem GrX.app9 {L b m r : Nat} {w w' : World} {D : GrD} {v8 v9 v10 u9 : Value} {x : HeEl} (h : GrX L b w D v8 v9 v10) (hl : D.f9.length ≤ 300) (hr : r = D.f9.length + 1) (ho : w'.ownsRow L 116 3 u9 r (heflat (D.f9 ++ [x]))) (hg : w.grownBy w' v9.ownBlock) (hat : u9.ownBlock = v9.ownBlock ∨ u9.ownBlock = some m) (hm : w.heap.size ≤ m) :
    GrX L b (w'.setCell ⟨b, 9, none⟩ u9) { D with f9 := D.f9 ++ [x] } v8 u9 v10 ∧ XMv b w (w'.setCell ⟨b, 9, none⟩ u9) v8 v9 v10 v8 u9 v10 ∧ w'.cell? ⟨b, 9, none⟩ = some v9 ∧ w'.frozen? ⟨b, 9, none⟩ = false := by
  subst hr
  have hb := h.box.grownB hg fun e => h.far (.inr (.inl e))
  have hlt := h.box.lt
  have key : ∀ k, Bk v8 u9 v10 k → Bk v8 v9 v10 k ∨ m = k := fun k hk => by
    rcases hk with hk | hk | hk
    · exact .inl (.inl hk)
    · rcases hat with e | e
      · exact .inl (.inr (.inl (e ▸ hk)))
      · rw [e] at hk; cases hk; exact .inr rfl
    · exact .inl (.inr (.inr hk))
  have hfar : ¬ Bk v8 u9 v10 b := fun hk => (key b hk).elim h.far fun e => by omega
  have hc := hb.cell 9 (by simp)
  refine ⟨⟨hb.set 9 (by simp) u9, (h.rows.app9 (by simp; omega) ho hg hat hm).set u9 (fun e => hfar (.inl e)) (fun e => hfar (.inr (.inl e))) (fun e => hfar (.inr (.inr e))), h.low, hfar⟩, XMv.set ⟨(But.refl _ _).grown hg fun k hk => .inl (.inr (.inl hk)), fun k hk => (key k hk).imp id fun e => by omega⟩ _, hc.1, hc.2⟩
theorem GrX.app10 {L b m r : Nat} {w w' : World} {D : GrD} {v8 v9 v10 u10 : Value} {x : HeEl} (h : GrX L b w D v8 v9 v10) (hl : D.f10.length ≤ 300) (hr : r = D.f10.length + 1) (ho : w'.ownsRow L 116 3 u10 r (heflat (D.f10 ++ [x]))) (hg : w.grownBy w' v10.ownBlock) (hat : u10.ownBlock = v10.ownBlock ∨ u10.ownBlock = some m) (hm : w.heap.size ≤ m) :
    GrX L b (w'.setCell ⟨b, 10, none⟩ u10) { D with f10 := D.f10 ++ [x] } v8 v9 u10 ∧ XMv b w (w'.setCell ⟨b, 10, none⟩ u10) v8 v9 v10 v8 v9 u10 ∧ w'.cell? ⟨b, 10, none⟩ = some v10 ∧ w'.frozen? ⟨b, 10, none⟩ = false := by
  subst hr
  have hb := h.box.grownB hg fun e => h.far (.inr (.inr e))
  have hlt := h.box.lt
  have key : ∀ k, Bk v8 v9 u10 k → Bk v8 v9 v10 k ∨ m = k := fun k hk => by
    rcases hk with hk | hk | hk
    · exact .inl (.inl hk)
    · exact .inl (.inr (.inl hk))
    · rcases hat with e | e
      · exact .inl (.inr (.inr (e ▸ hk)))
      · rw [e] at hk; cases hk; exact .inr rfl
  have hfar : ¬ Bk v8 v9 u10 b := fun hk => (key b hk).elim h.far fun e => by omega
  have hc := hb.cell 10 (by simp)
  refine ⟨⟨hb.set 10 (by simp) u10, (h.rows.app10 (by simp; omega) ho hg hat hm).set u10 (fun e => hfar (.inl e)) (fun e => hfar (.inr (.inl e))) (fun e => hfar (.inr (.inr e))), h.low, hfar⟩, XMv.set ⟨(But.refl _ _).grown hg fun k hk => .inl (.inr (.inr hk)), fun k hk => (key k hk).imp id fun e => by omega⟩ _, hc.1, hc.2⟩
theorem GrX.drew {L b : Nat} {w : World} {D : GrD} {v8 v9 v10 : Value} (h : GrX L b w D v8 v9 v10) : GrX L b w.drew D v8 v9 v10 := h.below ((Below.refl _ _).drew) rfl
theorem XMv.drew {b : Nat} {x y : World} {v8 v9 v10 u8 u9 u10 : Value} (h : XMv b x y v8 v9 v10 u8 u9 u10) : XMv b x y.drew v8 v9 v10 u8 u9 u10 := h.old (P := fun _ => False) (But.of ((Below.refl _ _).drew)) fun _ h => h.elim
theorem XMv.grow {b B : Nat} {x y z : World} {v8 v9 v10 u8 u9 u10 : Value} (h : XMv b x y v8 v9 v10 u8 u9 u10) (hb : Below B y z) (hB : B = y.heap.size) : XMv b x z v8 v9 v10 u8 u9 u10 := h.old (P := fun _ => False) (by subst hB; exact But.of hb) fun _ h => h.elim
end Go.Proofs.Ytdlkilacnnjglaa
namespace Go.Proofs.Ytdlkilacnnjglaa
open Go.RowKit Go.Sort

set_option maxRecDepth 100000 in
set_option maxHeartbeats 8000000 in
theorem itakeAck_no (L b : Nat) (D : GrD) (v8 v9 v10 : Value) (x y : Int) (w : World) (hG : GrX L b w D v8 v9 v10) (s0 s1 s2 : Bool) (h0 : (D.f1 == 1) = s0) (h1 : (D.f4 == x) = s1) (h2 : (D.f3 == y) = s2) (hc : (s0 && (s1 && s2)) = false) :
    Calls Try.prog 130 #[.pointer (some ⟨b, 0, none⟩), .agg #[.int .i64 x, .int .i64 y]] w fun e w' => e = .returned (.tuple #[]) ∧ Left L b w v8 v9 v10 D w' := by
  have bA : Below w.heap.size w (w.alloc (.cells #[.int .i64 x, .int .i64 y] 153)) := (Below.refl _ _).alloc (Nat.le_refl _) _
  have HL := hid (boxL_new w [.int .i64 x, .int .i64 y] 153)
  have HW := hid (hG.below bA rfl)
  have HM := hid ((XMv.refl b w v8 v9 v10).grow bA rfl)
  obtain ⟨W, hW⟩ : ∃ W, W = w.alloc (.cells #[.int .i64 x, .int .i64 y] 153) := ⟨_, rfl⟩
  rw [← hW] at HW HM HL
  have HWW := hid hW
  obtain ⟨p0, p1, p2, p3, p4, p5, p6, p7, p8, p9, p10⟩ := HW.out.box.eleven
  obtain ⟨y0, y1⟩ := HL.out.two
  have HC := hid hc
  clear hG hc bA hW
  have j0 := fun dd os => cell_regrown p0 dd os
  have j1 := fun dd os => cell_regrown p1 dd os
  have j2 := fun dd os => cell_regrown p2 dd os
  have j3 := fun dd os => cell_regrown p3 dd os
  have j4 := fun dd os => cell_regrown p4 dd os
  have j5 := fun dd os => cell_regrown p5 dd os
  have j6 := fun dd os => cell_regrown p6 dd os
  have j7 := fun dd os => cell_regrown p7 dd os
  have j8 := fun dd os => cell_regrown p8 dd os
  have j9 := fun dd os => cell_regrown p9 dd os
  have j10 := fun dd os => cell_regrown p10 dd os
  have l0 := fun dd os => cell_regrown y0 dd os
  have l1 := fun dd os => cell_regrown y1 dd os
  have c1 : ∀ dd os, Calls Try.prog 120 #[.agg #[.int .i64 D.f0, .int .i64 D.f1, .int .i64 D.f2, .int .i64 D.f3, .int .i64 D.f4, .int .i64 D.f5, .int .i64 D.f6, .int .i64 D.f7, v8, v9, v10]] (grow (redrawn W dd) os) fun e w'' => e = .returned (.agg #[.int .i64 D.f4, .int .i64 D.f3]) ∧ ∃ p : Regrown, w'' = grow (redrawn W p.d) p.os := fun dd os => Calls.regrown_of ((ipairB_eq _ _ _ _ _ _ _ _ _ _ _ D.f4 D.f3 rfl rfl _).mono fun e w' h => ⟨h.1, h.2⟩)
  cases s0 <;> cases s1 <;> cases s2
  case true.true.true => exact absurd HC.out (by decide)
  all_goals
    go_enter Try.func130, Try.ntmps130
    go_upto_region 1 with fail
    rw [← HWW.out]
    refine wp_region_quiet_below (by kernel_rfl) (by kernel_rfl) ?_
    repeat (go_big_quiet_step (first | exact c1 _ _))
    refine wpQuiet_nil ?_
    intro _ hw'
    obtain ⟨⟨dq, osq⟩, hw''⟩ := hw'
    subst hw''
    have HG2 := hid (HW.out.below (below_regrown W dq osq) rfl)
    have HM2 := hid (HM.out.grow (below_regrown W dq osq) rfl)
    go_wp2
    go_end0
    exact ⟨rfl, _, _, _, HG2.out, HM2.out⟩
end Go.Proofs.Ytdlkilacnnjglaa
namespace Go.Proofs.Ytdlkilacnnjglaa
open Go.RowKit Go.Sort

set_option maxRecDepth 100000 in
set_option maxHeartbeats 8000000 in
theorem itakeAck_yes (L b : Nat) (D : GrD) (v8 v9 v10 : Value) (w : World) (hL : L ≤ w.heap.size) (hG : GrX L b w D v8 v9 v10) (h0 : D.f1 = 1) (hl : D.f10.length < 300) :
    Calls Try.prog 130 #[.pointer (some ⟨b, 0, none⟩), .agg #[.int .i64 D.f4, .int .i64 D.f3]] w fun e w' => e = .returned (.tuple #[]) ∧ Left L b w v8 v9 v10 { D with f1 := 2, f10 := D.f10 ++ [(3, D.f4, D.f3)] } w' := by
  obtain ⟨a8, c8, a9, c9, a10, c10, rfl, rfl, rfl⟩ := hG.rows.form
  obtain ⟨x, hx⟩ : ∃ x, x = D.f4 := ⟨_, rfl⟩
  obtain ⟨y, hy⟩ : ∃ y, y = D.f3 := ⟨_, rfl⟩
  rw [← hx, ← hy]
  have bA : Below w.heap.size w (w.alloc (.cells #[.int .i64 x, .int .i64 y] 153)) := (Below.refl _ _).alloc (Nat.le_refl _) _
  have HL := hid (boxL_new w [.int .i64 x, .int .i64 y] 153)
  have hlt := hG.box.lt
  have HW := hid (hG.below bA rfl)
  have HM := hid ((XMv.refl b w (.slice a8 D.f8.length c8) (.slice a9 D.f9.length c9) (.slice a10 D.f10.length c10)).grow bA rfl)
  obtain ⟨W, hW⟩ : ∃ W, W = w.alloc (.cells #[.int .i64 x, .int .i64 y] 153) := ⟨_, rfl⟩
  rw [← hW] at HW HM HL
  have HWW := hid hW
  obtain ⟨p0, p1, p2, p3, p4, p5, p6, p7, p8, p9, p10⟩ := HW.out.box.eleven
  rw [h0] at p1
  rw [← hx] at p4
  rw [← hy] at p3
  obtain ⟨y0, y1⟩ := HL.out.two
  have HXX := hid hx
  have HYY := hid hy
  clear hG bA hW hx hy h0
  have j0 := fun dd os => cell_regrown p0 dd os
  have j1 := fun dd os => cell_regrown p1 dd os
  have j2 := fun dd os => cell_regrown p2 dd os
  have j3 := fun dd os => cell_regrown p3 dd os
  have j4 := fun dd os => cell_regrown p4 dd os
  have j5 := fun dd os => cell_regrown p5 dd os
  have j6 := fun dd os => cell_regrown p6 dd os
  have j7 := fun dd os => cell_regrown p7 dd os
  have j8 := fun dd os => cell_regrown p8 dd os
  have j9 := fun dd os => cell_regrown p9 dd os
  have j10 := fun dd os => cell_regrown p10 dd os
  have l0 := fun dd os => cell_regrown y0 dd os
  have l1 := fun dd os => cell_regrown y1 dd os
  have c1 : ∀ dd os, Calls Try.prog 120 #[.agg #[.int .i64 D.f0, .int .i64 1, .int .i64 D.f2, .int .i64 y, .int .i64 x, .int .i64 D.f5, .int .i64 D.f6, .int .i64 D.f7, .slice a8 D.f8.length c8, .slice a9 D.f9.length c9, .slice a10 D.f10.length c10]] (grow (redrawn W dd) os) fun e w'' => e = .returned (.agg #[.int .i64 x, .int .i64 y]) ∧ ∃ p : Regrown, w'' = grow (redrawn W p.d) p.os := fun dd os => Calls.regrown_of ((ipairB_eq _ _ _ _ _ _ _ _ _ _ _ x y rfl rfl _).mono fun e w' h => ⟨h.1, h.2⟩)
  go_enter Try.func130, Try.ntmps130
  go_upto_region 1 with fail
  rw [← HWW.out]
  refine wp_region_quiet_below (by kernel_rfl) (by kernel_rfl) ?_
  repeat (go_big_quiet_step (first | exact c1 _ _))
  refine wpQuiet_nil ?_
  intro _ hw'
  obtain ⟨⟨dq, osq⟩, hw''⟩ := hw'
  subst hw''
  clear j0 j1 j2 j3 j4 j5 j6 j7 j8 j9 j10 l0 l1 c1 p0 p1 p2 p3 p4 p5 p6 p7 p8 p9 p10 y0 y1 HWW
  obtain ⟨V, hV⟩ : ∃ V, V = grow (redrawn W dq) osq := ⟨_, rfl⟩
  have bV := below_regrown W dq osq
  rw [← hV] at bV ⊢
  replace HW := hid (HW.out.below bV rfl)
  replace HM := hid (HM.out.grow bV rfl)
  replace HL := hid (HL.out.below bV HL.out.lt)
  clear hV bV
  obtain ⟨q0, q1, q2, q3, q4, q5, q6, q7, q8, q9, q10⟩ := HW.out.box.eleven
  obtain ⟨g0, g1, g2, g3, g4, g5, g6, g7, g8, g9, g10⟩ := HW.out.box.frozen11
  replace HW := hid (HW.out.put (j := 1) (D' := { D with f1 := 2 }) (.int .i64 2) (by decide) rfl rfl rfl rfl)
  replace HM := hid (HM.out.set (j := 1) (.int .i64 2))
  have hlb : w.heap.size ≠ b := by omega
  have HL2 : Hid (BoxL (V.setCell ⟨b, 1, none⟩ (.int .i64 2)) w.heap.size [.int .i64 x, .int .i64 y]) := HL.out.but ((But.refl (fun k => k = b) V).setCell (P := fun k => k = b) (p := ⟨b, 1, none⟩) rfl _) hlb
  obtain ⟨V2, hV2⟩ : ∃ V2, V2 = V.setCell ⟨b, 1, none⟩ (.int .i64 2) := ⟨_, rfl⟩
  rw [← hV2] at HW HM HL2
  have HV2 := hid hV2
  have hLV : L ≤ V2.heap.size := Nat.le_trans hL HM.out.but.size
  have HLV := hid hLV
  clear HL hV2 hLV
  go_upto_region 3 with fail
  rw [← HV2.out]
  clear HV2 q0 q1 q2 q3 q4 q5 q6 q7 q8 q9 q10 g0 g1 g2 g3 g4 g5 g6 g7 g8 g9 g10
  have q10 := (HW.out.box.cell 10 (by simp)).1
  change World.cell? _ _ = some (.slice a10 D.f10.length c10) at q10
  obtain ⟨y0, y1⟩ := HL2.out.two
  go_region_law (first
    | (change (if Region.wanted (Oper.mk (some 27) _ _ _ _ _) _ = true then _ else _); rw [if_pos (by rfl)]; go_simp; refine (ihello_ack x y _).mono ?_; rintro e w2 ⟨rfl, b6⟩; have B2 : Hid (Below V2.heap.size V2 w2) := (Below.refl _ _).drew.trans b6; have G3 := hid ((HW.out.below B2.out rfl).below ((Below.refl w2.heap.size w2).alloc (Nat.le_refl _) (.cells #[.int .i64 3, .int .i64 x, .int .i64 y] 116)) rfl); have r8 := ((HW.out.below B2.out rfl).box.cell 10 (by simp)).1; change World.cell? _ _ = some (.slice a10 D.f10.length c10) at r8; have r8b := (G3.out.box.cell 10 (by simp)).1; change World.cell? _ _ = some (.slice a10 D.f10.length c10) at r8b; clear b6)
    | (change (if Region.wanted (Oper.mk (some 29) _ _ _ _ _) _ = true then _ else _); refine step_append_he (by rfl) _ _ (by rfl) L _ D.f10.length D.f10 (by rfl) G3.out.rows.r10 _ [(3, x, y)] (by rfl) (hereads_one w2 (3, x, y) _) (by simp; omega) (Nat.le_trans HLV.out (Nat.le_trans B2.out.size (by simp))) ?_; intro u10 w4 ho hg hat; obtain ⟨a4, c4, rfl, _⟩ := heowns_form (n := D.f10.length + 1) ho; have AP := G3.out.app10 (x := (3, x, y)) (by show D.f10.length ≤ 300; omega) rfl ho hg hat (by simp); have r8n := AP.2.2.1; have f8n := AP.2.2.2; have HAP := hid AP.1; have HMV := hid (HM.out.trans (XMv.start (P := fun _ => False) (But.of (B2.out.alloc B2.out.size _)) (fun _ h => h.elim) AP.2.1)); clear AP ho hg hat))
  all_goals
    go_wp2
    go_end0
    obtain rfl := HXX.out
    obtain rfl := HYY.out
    exact ⟨rfl, _, _, _, HAP.out, HMV.out⟩
end Go.Proofs.Ytdlkilacnnjglaa
namespace Go.Proofs.Ytdlkilacnnjglaa
open Go.RowKit

set_option maxRecDepth 100000 in
set_option maxHeartbeats 4000000 in
theorem ibegin_no (L b : Nat) (D : GrD) (v8 v9 v10 : Value) (w : World) (hG : GrX L b w D v8 v9 v10) (h6 : D.f6 = 1000) :
    Calls Try.prog 110 #[.pointer (some ⟨b, 0, none⟩)] w fun e w' => e = .returned (.bool false) ∧ w' = w := by
  obtain ⟨q0, q1, q2, q3, q4, q5, q6, q7, q8, q9, q10⟩ := hG.box.eleven
  rw [h6] at q6
  clear hG h6
  go_enter Try.func110, Try.ntmps110
  go_wp2
  go_ret
  exact ⟨rfl, rfl⟩
set_option maxRecDepth 100000 in
set_option maxHeartbeats 4000000 in
theorem ibegin_yes (L b : Nat) (D : GrD) (v8 v9 v10 : Value) (w : World) (hL : L ≤ w.heap.size) (hG : GrX L b w D v8 v9 v10) (h6 : D.f6 ≠ 1000) (hx : 0 ≤ D.f6 ∧ D.f6 ≤ 1000) (hn : D.f8.length ≤ 30) :
    Calls Try.prog 110 #[.pointer (some ⟨b, 0, none⟩)] w fun e w' => e = .returned (.bool true) ∧ Left L b w v8 v9 v10 (beG D) w' := by
  obtain ⟨q0, q1, q2, q3, q4, q5, q6, q7, q8, q9, q10⟩ := hG.box.eleven
  obtain ⟨g0, g1, g2, g3, g4, g5, g6, g7, g8, g9, g10⟩ := hG.box.frozen11
  obtain ⟨y1, hy1⟩ : ∃ y, y = D.f6 + 1 := ⟨_, rfl⟩
  have hw : IntKind.i64.wrap (D.f6 + 1) = y1 := by rw [IntKind.wrap_i64]; omega
  have d6 : (D.f6 == 1000) = false := by simpa using h6
  have H1 := hG.put (j := 6) (D' := { D with f6 := y1 }) (.int .i64 y1) (by decide) rfl rfl rfl rfl
  have H2 := H1.put (j := 0) (D' := { D with f6 := y1, f0 := 1 }) (.int .i64 1) (by decide) rfl rfl rfl rfl
  have H3 := H2.put (j := 2) (D' := { D with f6 := y1, f0 := 1, f2 := y1 }) (.int .i64 y1) (by decide) rfl rfl rfl rfl
  have H4 := hid (H3.put (j := 5) (D' := { D with f6 := y1, f0 := 1, f2 := y1, f5 := 0 }) (.int .i64 0) (by decide) rfl rfl rfl rfl)
  have hE : beG D = wrG { D with f6 := y1, f0 := 1, f2 := y1, f5 := 0 } (1, y1, 0) := by rw [hy1]; rfl
  rw [hE]
  have HM := hid ((((XMv.refl b w v8 v9 v10).set (j := 6) (.int .i64 y1)).set (j := 0) (.int .i64 1)).set (j := 2) (.int .i64 y1) |>.set (j := 5) (.int .i64 0))
  clear hG H1 H2 H3 h6 hx hE hy1
  go_enter Try.func110, Try.ntmps110
  go_wp2_with fail
  refine (iwrite_any L b _ (1, y1, 0) v8 v9 v10 _ (Nat.le_trans hL HM.out.but.size) H4.out (by show (1 : Int) ≤ 1 ∧ (1 : Int) ≤ 3; decide) (fun _ => rfl) hn).mono ?_
  rintro e w1 ⟨rfl, u8, u9, u10, hg, hm⟩
  have HG := hid hg
  have HX := hid (HM.out.trans hm)
  clear hg hm q0 q1 q2 q3 q4 q5 q6 q7 q8 q9 q10 g0 g1 g2 g3 g4 g5 g6 g7 g8 g9 g10
  go_wp2
  go_ret
  exact ⟨rfl, _, _, _, HG.out, HX.out⟩
end Go.Proofs.Ytdlkilacnnjglaa
