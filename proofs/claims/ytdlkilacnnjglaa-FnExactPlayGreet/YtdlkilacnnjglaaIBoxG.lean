/-
  A greeting in a box that impl's methods write: what they leave. Plain facts on the memory.
  impl's (*Greet).write: a letter put behind the line, where there is room.
  impl's (*Greet).closeEnd, forget: an end is closed.
-/
import Derived.Test.YtdlkilacnnjglaaPut11
import Derived.Test.YtdlkilacnnjglaaIGr1
import Derived.Test.YtdlkilacnnjglaaHeApp3
import Derived.Deep.RegionLawGrows
import Derived.Deep.RegionWith
namespace Go.Proofs.Ytdlkilacnnjglaa
open Go.RowKit

/-- A greeting in the box b, its rows the call's own, from L on. -/
structure GrX (L b : Nat) (w : World) (D : GrD) (v8 v9 v10 : Value) : Prop where
  box : BoxL w b (grC D v8 v9 v10)
  rows : RowsU L w v8 v9 v10 D.f8 D.f9 D.f10
  low : L ≤ b
  far : ¬ Bk v8 v9 v10 b
/-- Of what was there nothing has turned but the box and the rows' own blocks. -/
structure XMv (b : Nat) (w w' : World) (v8 v9 v10 u8 u9 u10 : Value) : Prop where
  but : But (fun k => Bk v8 v9 v10 k ∨ k = b) w w'
  blk : ∀ k, Bk u8 u9 u10 k → Bk v8 v9 v10 k ∨ w.heap.size ≤ k
/-- What a method leaves. -/
def Left (L b : Nat) (w : World) (v8 v9 v10 : Value) (D' : GrD) (w' : World) : Prop := ∃ u8 u9 u10, GrX L b w' D' u8 u9 u10 ∧ XMv b w w' v8 v9 v10 u8 u9 u10
theorem XMv.refl (b : Nat) (w : World) (v8 v9 v10 : Value) : XMv b w w v8 v9 v10 v8 v9 v10 := ⟨But.refl _ _, fun _ h => .inl h⟩
theorem XMv.trans {b : Nat} {x y z : World} {v8 v9 v10 u8 u9 u10 t8 t9 t10 : Value} (h : XMv b x y v8 v9 v10 u8 u9 u10) (k : XMv b y z u8 u9 u10 t8 t9 t10) : XMv b x z v8 v9 v10 t8 t9 t10 :=
  ⟨h.but.and k.but fun j hj hq => hq.elim (fun h1 => .inl ((h.blk j h1).resolve_right (by omega))) .inr, fun j hj => (k.blk j hj).elim (fun h1 => h.blk j h1) fun h1 => .inr (Nat.le_trans h.but.size h1)⟩
theorem XMv.old {b : Nat} {P : Nat → Prop} {x y z : World} {v8 v9 v10 u8 u9 u10 : Value} (h : XMv b x y v8 v9 v10 u8 u9 u10) (hb : But P y z) (hp : ∀ k, P k → x.heap.size ≤ k) : XMv b x z v8 v9 v10 u8 u9 u10 :=
  ⟨h.but.and hb fun j hj hq => by have := hp j hq; omega, h.blk⟩
theorem XMv.set {b j : Nat} {x y : World} {v8 v9 v10 u8 u9 u10 : Value} (h : XMv b x y v8 v9 v10 u8 u9 u10) (u : Value) : XMv b x (y.setCell ⟨b, j, none⟩ u) v8 v9 v10 u8 u9 u10 :=
  ⟨h.but.and ((But.refl (fun k => k = b) y).setCell (P := fun k => k = b) (p := ⟨b, j, none⟩) rfl u) fun _ _ hq => .inr hq, h.blk⟩
theorem XMv.start {b : Nat} {P : Nat → Prop} {x y z : World} {v8 v9 v10 u8 u9 u10 : Value} (hb : But P x y) (hp : ∀ k, P k → x.heap.size ≤ k) (h : XMv b y z v8 v9 v10 u8 u9 u10) : XMv b x z v8 v9 v10 u8 u9 u10 :=
  ⟨⟨hb.1.trans h.but.1, fun j hj hq => (h.but.2 j (Nat.lt_of_lt_of_le hj hb.size) hq).trans (hb.2 j hj fun hP => by have := hp j hP; omega)⟩, fun k hk => (h.blk k hk).elim .inl fun h1 => .inr (Nat.le_trans hb.size h1)⟩
theorem XMv.below {L b : Nat} {w w' : World} {D : GrD} {v8 v9 v10 u8 u9 u10 : Value} (h : XMv b w w' v8 v9 v10 u8 u9 u10) (hg : GrX L b w D v8 v9 v10) (hL : L ≤ w.heap.size) : Below L w w' := h.but.to hL fun k hk hb => by
  rcases hb with hb | hb
  · have := (hg.rows.blk hb).1; omega
  · have := hg.low; omega
theorem GrX.below {L b B : Nat} {w w' : World} {D : GrD} {v8 v9 v10 : Value} (h : GrX L b w D v8 v9 v10) (hb : Below B w w') (hB : B = w.heap.size) : GrX L b w' D v8 v9 v10 :=
  ⟨h.box.below hb (by have := h.box.lt; omega), h.rows.below hb hB, h.low, h.far⟩
/-- A number of the box is written. -/
theorem GrX.put {L b j : Nat} {w : World} {D D' : GrD} {v8 v9 v10 : Value} (h : GrX L b w D v8 v9 v10) (u : Value) (hj : j < 11) (he : (grC D v8 v9 v10).set j u = grC D' v8 v9 v10) (h8 : D'.f8 = D.f8) (h9 : D'.f9 = D.f9) (h10 : D'.f10 = D.f10) : GrX L b (w.setCell ⟨b, j, none⟩ u) D' v8 v9 v10 := by
  refine ⟨?_, ?_, h.low, h.far⟩
  · rw [← he]; exact h.box.set j (by simpa using hj) u
  · rw [h8, h9, h10]; exact h.rows.set u (fun e => h.far (.inl e)) (fun e => h.far (.inr (.inl e))) (fun e => h.far (.inr (.inr e)))
/-- The first row has grown, and the box holds it. -/
theorem GrX.app8 {L b m r : Nat} {w w' : World} {D : GrD} {v8 v9 v10 u8 : Value} {x : HeEl} (h : GrX L b w D v8 v9 v10) (hl : D.f8.length ≤ 300) (hr : r = D.f8.length + 1) (ho : w'.ownsRow L 116 3 u8 r (heflat (D.f8 ++ [x]))) (hg : w.grownBy w' v8.ownBlock) (hat : u8.ownBlock = v8.ownBlock ∨ u8.ownBlock = some m) (hm : w.heap.size ≤ m) :
    GrX L b (w'.setCell ⟨b, 8, none⟩ u8) { D with f8 := D.f8 ++ [x] } u8 v9 v10 ∧ XMv b w (w'.setCell ⟨b, 8, none⟩ u8) v8 v9 v10 u8 v9 v10 ∧ w'.cell? ⟨b, 8, none⟩ = some v8 ∧ w'.frozen? ⟨b, 8, none⟩ = false := by
  subst hr
  have hb := h.box.grownB hg fun e => h.far (.inl e)
  have hlt := h.box.lt
  have hfar : ¬ Bk u8 v9 v10 b := fun hk => by
    rcases hk with hk | hk
    · rcases hat with e | e
      · exact h.far (.inl (e ▸ hk))
      · rw [e] at hk; cases hk; omega
    · exact h.far (.inr hk)
  have hc := hb.cell 8 (by simp)
  refine ⟨⟨hb.set 8 (by simp) u8, (h.rows.app8 (by simp; omega) ho hg hat hm).set u8 (fun e => hfar (.inl e)) (fun e => hfar (.inr (.inl e))) (fun e => hfar (.inr (.inr e))), h.low, hfar⟩, XMv.set ⟨(But.refl _ _).grown hg fun k hk => .inl (.inl hk), fun k hk => ?_⟩ _, hc.1, hc.2⟩
  rcases hk with hk | hk
  · rcases hat with e | e
    · exact .inl (.inl (e ▸ hk))
    · rw [e] at hk; cases hk; exact .inr hm
  · exact .inl (.inr hk)
end Go.Proofs.Ytdlkilacnnjglaa
namespace Go.Proofs.Ytdlkilacnnjglaa
open Go.RowKit

set_option maxRecDepth 100000 in
set_option maxHeartbeats 8000000 in
theorem iwrite_no (L b : Nat) (D : GrD) (v8 v9 v10 lv : Value) (w : World) (hG : GrX L b w D v8 v9 v10) (hn : D.f8.length = 30) :
    Calls Try.prog 123 #[.pointer (some ⟨b, 0, none⟩), lv] w fun e w' => e = .returned (.bool false) ∧ w' = w := by
  obtain ⟨a8, c8, a9, c9, a10, c10, rfl, rfl, rfl⟩ := hG.rows.form
  obtain ⟨q0, q1, q2, q3, q4, q5, q6, q7, q8, q9, q10⟩ := hG.box.eleven
  rw [hn] at q8
  clear hG hn
  go_enter Try.func123, Try.ntmps123
  go_wp2
  go_ret
  exact ⟨rfl, rfl⟩
set_option maxRecDepth 100000 in
set_option maxHeartbeats 8000000 in
theorem iwrite_ask (L b : Nat) (D : GrD) (v8 v9 v10 : Value) (a : Int) (w : World) (hL : L ≤ w.heap.size) (hG : GrX L b w D v8 v9 v10) (hn : D.f8.length < 30) :
    Calls Try.prog 123 #[.pointer (some ⟨b, 0, none⟩), .iface 146 (.agg #[.int .i64 a])] w fun e w' => e = .returned (.bool true) ∧ Left L b w v8 v9 v10 { D with f8 := D.f8 ++ [(1, a, 0)] } w' := by
  obtain ⟨a8, c8, a9, c9, a10, c10, rfl, rfl, rfl⟩ := hG.rows.form
  obtain ⟨q0, q1, q2, q3, q4, q5, q6, q7, q8, q9, q10⟩ := hG.box.eleven
  have hd : ((D.f8.length : Int) == 30) = false := by simp; omega
  have HG := hid hG
  have hlt := hG.box.lt
  have HLT := hid hlt
  clear hG hlt
  go_enter Try.func123, Try.ntmps123
  go_wp2_with fail
  go_region_law (first
    | (change (if Region.wanted (Oper.mk (some 17) _ _ _ _ _) _ = true then _ else _); rw [if_pos (by rfl)]; go_simp; refine (ihello_ask a _).mono ?_; rintro e w2 ⟨rfl, b6⟩; have B2 : Hid (Below w.heap.size w w2) := (Below.refl _ _).drew.trans b6; have G3 := hid ((HG.out.below B2.out rfl).below ((Below.refl w2.heap.size w2).alloc (Nat.le_refl _) (.cells #[.int .i64 1, .int .i64 a, .int .i64 0] 116)) rfl); have r8 := ((HG.out.below B2.out rfl).box.cell 8 (by simp)).1; change World.cell? _ _ = some (.slice a8 D.f8.length c8) at r8; have r8b := (G3.out.box.cell 8 (by simp)).1; change World.cell? _ _ = some (.slice a8 D.f8.length c8) at r8b; clear b6)
    | (change (if Region.wanted (Oper.mk (some 19) _ _ _ _ _) _ = true then _ else _); refine step_append_he (by rfl) _ _ (by rfl) L _ D.f8.length D.f8 (by rfl) G3.out.rows.r8 _ [(1, a, 0)] (by rfl) (hereads_one w2 (1, a, 0) _) (by simp; omega) (Nat.le_trans hL (Nat.le_trans B2.out.size (by simp))) ?_; intro u8 w4 ho hg hat; obtain ⟨a4, c4, rfl, _⟩ := heowns_form (n := D.f8.length + 1) ho; have AP := G3.out.app8 (x := (1, a, 0)) (by omega) rfl ho hg hat (by simp); have r8n := AP.2.2.1; have f8n := AP.2.2.2; have HAP := hid AP.1; have HMV := hid (XMv.start (P := fun _ => False) (But.of (B2.out.alloc B2.out.size _)) (fun _ h => h.elim) AP.2.1); clear AP ho hg hat))
  all_goals
    go_wp2
    go_ret
    exact ⟨rfl, _, _, _, HAP.out, HMV.out⟩
set_option maxRecDepth 100000 in
set_option maxHeartbeats 8000000 in
theorem iwrite_both (L b : Nat) (D : GrD) (v8 v9 v10 : Value) (a b2 : Int) (w : World) (hL : L ≤ w.heap.size) (hG : GrX L b w D v8 v9 v10) (hn : D.f8.length < 30) :
    Calls Try.prog 123 #[.pointer (some ⟨b, 0, none⟩), .iface 152 (.agg #[.int .i64 a, .int .i64 b2])] w fun e w' => e = .returned (.bool true) ∧ Left L b w v8 v9 v10 { D with f8 := D.f8 ++ [(2, a, b2)] } w' := by
  obtain ⟨a8, c8, a9, c9, a10, c10, rfl, rfl, rfl⟩ := hG.rows.form
  obtain ⟨q0, q1, q2, q3, q4, q5, q6, q7, q8, q9, q10⟩ := hG.box.eleven
  have hd : ((D.f8.length : Int) == 30) = false := by simp; omega
  have HG := hid hG
  have hlt := hG.box.lt
  have HLT := hid hlt
  clear hG hlt
  go_enter Try.func123, Try.ntmps123
  go_wp2_with fail
  go_region_law (first
    | (change (if Region.wanted (Oper.mk (some 17) _ _ _ _ _) _ = true then _ else _); rw [if_pos (by rfl)]; go_simp; refine (ihello_both a b2 _).mono ?_; rintro e w2 ⟨rfl, b6⟩; have B2 : Hid (Below w.heap.size w w2) := (Below.refl _ _).drew.trans b6; have G3 := hid ((HG.out.below B2.out rfl).below ((Below.refl w2.heap.size w2).alloc (Nat.le_refl _) (.cells #[.int .i64 2, .int .i64 a, .int .i64 b2] 116)) rfl); have r8 := ((HG.out.below B2.out rfl).box.cell 8 (by simp)).1; change World.cell? _ _ = some (.slice a8 D.f8.length c8) at r8; have r8b := (G3.out.box.cell 8 (by simp)).1; change World.cell? _ _ = some (.slice a8 D.f8.length c8) at r8b; clear b6)
    | (change (if Region.wanted (Oper.mk (some 19) _ _ _ _ _) _ = true then _ else _); refine step_append_he (by rfl) _ _ (by rfl) L _ D.f8.length D.f8 (by rfl) G3.out.rows.r8 _ [(2, a, b2)] (by rfl) (hereads_one w2 (2, a, b2) _) (by simp; omega) (Nat.le_trans hL (Nat.le_trans B2.out.size (by simp))) ?_; intro u8 w4 ho hg hat; obtain ⟨a4, c4, rfl, _⟩ := heowns_form (n := D.f8.length + 1) ho; have AP := G3.out.app8 (x := (2, a, b2)) (by omega) rfl ho hg hat (by simp); have r8n := AP.2.2.1; have f8n := AP.2.2.2; have HAP := hid AP.1; have HMV := hid (XMv.start (P := fun _ => False) (But.of (B2.out.alloc B2.out.size _)) (fun _ h => h.elim) AP.2.1); clear AP ho hg hat))
  all_goals
    go_wp2
    go_ret
    exact ⟨rfl, _, _, _, HAP.out, HMV.out⟩
set_option maxRecDepth 100000 in
set_option maxHeartbeats 8000000 in
theorem iwrite_ack (L b : Nat) (D : GrD) (v8 v9 v10 : Value) (a b2 : Int) (w : World) (hL : L ≤ w.heap.size) (hG : GrX L b w D v8 v9 v10) (hn : D.f8.length < 30) :
    Calls Try.prog 123 #[.pointer (some ⟨b, 0, none⟩), .iface 153 (.agg #[.int .i64 a, .int .i64 b2])] w fun e w' => e = .returned (.bool true) ∧ Left L b w v8 v9 v10 { D with f8 := D.f8 ++ [(3, a, b2)] } w' := by
  obtain ⟨a8, c8, a9, c9, a10, c10, rfl, rfl, rfl⟩ := hG.rows.form
  obtain ⟨q0, q1, q2, q3, q4, q5, q6, q7, q8, q9, q10⟩ := hG.box.eleven
  have hd : ((D.f8.length : Int) == 30) = false := by simp; omega
  have HG := hid hG
  have hlt := hG.box.lt
  have HLT := hid hlt
  clear hG hlt
  go_enter Try.func123, Try.ntmps123
  go_wp2_with fail
  go_region_law (first
    | (change (if Region.wanted (Oper.mk (some 17) _ _ _ _ _) _ = true then _ else _); rw [if_pos (by rfl)]; go_simp; refine (ihello_ack a b2 _).mono ?_; rintro e w2 ⟨rfl, b6⟩; have B2 : Hid (Below w.heap.size w w2) := (Below.refl _ _).drew.trans b6; have G3 := hid ((HG.out.below B2.out rfl).below ((Below.refl w2.heap.size w2).alloc (Nat.le_refl _) (.cells #[.int .i64 3, .int .i64 a, .int .i64 b2] 116)) rfl); have r8 := ((HG.out.below B2.out rfl).box.cell 8 (by simp)).1; change World.cell? _ _ = some (.slice a8 D.f8.length c8) at r8; have r8b := (G3.out.box.cell 8 (by simp)).1; change World.cell? _ _ = some (.slice a8 D.f8.length c8) at r8b; clear b6)
    | (change (if Region.wanted (Oper.mk (some 19) _ _ _ _ _) _ = true then _ else _); refine step_append_he (by rfl) _ _ (by rfl) L _ D.f8.length D.f8 (by rfl) G3.out.rows.r8 _ [(3, a, b2)] (by rfl) (hereads_one w2 (3, a, b2) _) (by simp; omega) (Nat.le_trans hL (Nat.le_trans B2.out.size (by simp))) ?_; intro u8 w4 ho hg hat; obtain ⟨a4, c4, rfl, _⟩ := heowns_form (n := D.f8.length + 1) ho; have AP := G3.out.app8 (x := (3, a, b2)) (by omega) rfl ho hg hat (by simp); have r8n := AP.2.2.1; have f8n := AP.2.2.2; have HAP := hid AP.1; have HMV := hid (XMv.start (P := fun _ => False) (But.of (B2.out.alloc B2.out.size _)) (fun _ h => h.elim) AP.2.1); clear AP ho hg hat))
  all_goals
    go_wp2
    go_ret
    exact ⟨rfl, _, _, _, HAP.out, HMV.out⟩
end Go.Proofs.Ytdlkilacnnjglaa
namespace Go.Proofs.Ytdlkilacnnjglaa
open Go.RowKit

set_option maxRecDepth 100000 in
set_option maxHeartbeats 4000000 in
theorem iclose_A (L b : Nat) (D : GrD) (v8 v9 v10 : Value) (w : World) (hG : GrX L b w D v8 v9 v10) :
    Calls Try.prog 113 #[.pointer (some ⟨b, 0, none⟩), .int .i64 0] w fun e w' => e = .returned (.bool true) ∧ Left L b w v8 v9 v10 (clA D) w' := by
  obtain ⟨q0, q1, q2, q3, q4, q5, q6, q7, q8, q9, q10⟩ := hG.box.eleven
  obtain ⟨g0, g1, g2, g3, g4, g5, g6, g7, g8, g9, g10⟩ := hG.box.frozen11
  have H1 := hG.put (j := 0) (D' := { D with f0 := 0 }) (.int .i64 0) (by decide) rfl rfl rfl rfl
  have H2 := H1.put (j := 2) (D' := { D with f0 := 0, f2 := 0 }) (.int .i64 0) (by decide) rfl rfl rfl rfl
  have H3 := hid (H2.put (j := 5) (D' := clA D) (.int .i64 0) (by decide) rfl rfl rfl rfl)
  clear hG H1 H2
  go_enter Try.func113, Try.ntmps113
  go_wp2
  go_ret
  exact ⟨rfl, _, _, _, H3.out, (((XMv.refl b w v8 v9 v10).set _).set _).set _⟩
set_option maxRecDepth 100000 in
set_option maxHeartbeats 4000000 in
theorem iclose_B (L b : Nat) (D : GrD) (v8 v9 v10 : Value) (w : World) (hG : GrX L b w D v8 v9 v10) :
    Calls Try.prog 113 #[.pointer (some ⟨b, 0, none⟩), .int .i64 1] w fun e w' => e = .returned (.bool true) ∧ Left L b w v8 v9 v10 (clB D) w' := by
  obtain ⟨q0, q1, q2, q3, q4, q5, q6, q7, q8, q9, q10⟩ := hG.box.eleven
  obtain ⟨g0, g1, g2, g3, g4, g5, g6, g7, g8, g9, g10⟩ := hG.box.frozen11
  have H1 := hG.put (j := 1) (D' := { D with f1 := 0 }) (.int .i64 0) (by decide) rfl rfl rfl rfl
  have H2 := H1.put (j := 4) (D' := { D with f1 := 0, f4 := 0 }) (.int .i64 0) (by decide) rfl rfl rfl rfl
  have H3 := hid (H2.put (j := 3) (D' := clB D) (.int .i64 0) (by decide) rfl rfl rfl rfl)
  clear hG H1 H2
  go_enter Try.func113, Try.ntmps113
  go_wp2
  go_ret
  exact ⟨rfl, _, _, _, H3.out, (((XMv.refl b w v8 v9 v10).set _).set _).set _⟩
set_option maxRecDepth 100000 in
set_option maxHeartbeats 4000000 in
theorem iclose_no (b : Nat) (i : Int) (w : World) (h0 : i ≠ 0) (h1 : i ≠ 1) :
    Calls Try.prog 113 #[.pointer (some ⟨b, 0, none⟩), .int .i64 i] w fun e w' => e = .returned (.bool false) ∧ w' = w := by
  have d0 : (i == 0) = false := by simpa using h0
  have d1 : (i == 1) = false := by simpa using h1
  clear h0 h1
  go_enter Try.func113, Try.ntmps113
  go_wp2
  go_ret
  exact ⟨rfl, rfl⟩
set_option maxRecDepth 100000 in
set_option maxHeartbeats 4000000 in
theorem iforget_yes (L b : Nat) (D : GrD) (v8 v9 v10 : Value) (w : World) (hG : GrX L b w D v8 v9 v10) (h1 : D.f1 = 1) :
    Calls Try.prog 112 #[.pointer (some ⟨b, 0, none⟩)] w fun e w' => e = .returned (.bool true) ∧ Left L b w v8 v9 v10 (clB D) w' := by
  obtain ⟨q0, q1, q2, q3, q4, q5, q6, q7, q8, q9, q10⟩ := hG.box.eleven
  rw [h1] at q1
  have HG := hid hG
  clear hG h1
  go_enter Try.func112, Try.ntmps112
  go_wp2_with fail
  refine (iclose_B L b D v8 v9 v10 _ HG.out).mono ?_
  rintro e w1 ⟨rfl, hl⟩
  have HL := hid hl
  clear hl q0 q1 q2 q3 q4 q5 q6 q7 q8 q9 q10
  go_wp2
  go_ret
  exact ⟨rfl, HL.out⟩
set_option maxRecDepth 100000 in
set_option maxHeartbeats 4000000 in
theorem iforget_no (L b : Nat) (D : GrD) (v8 v9 v10 : Value) (w : World) (hG : GrX L b w D v8 v9 v10) (h1 : D.f1 ≠ 1) :
    Calls Try.prog 112 #[.pointer (some ⟨b, 0, none⟩)] w fun e w' => e = .returned (.bool false) ∧ w' = w := by
  obtain ⟨q0, q1, q2, q3, q4, q5, q6, q7, q8, q9, q10⟩ := hG.box.eleven
  have d1 : (D.f1 == 1) = false := by simpa using h1
  clear hG h1
  go_enter Try.func112, Try.ntmps112
  go_wp2
  go_ret
  exact ⟨rfl, rfl⟩
end Go.Proofs.Ytdlkilacnnjglaa
