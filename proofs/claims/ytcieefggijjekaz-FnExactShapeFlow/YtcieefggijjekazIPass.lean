/-
  impl's method pass of a queue in a box. Nothing but the box and the queue's own rows is written.
-/
import Derived.Test.YtcieefggijjekazIQueue
import Derived.Deep.AppendLies
import Derived.Deep.RegionLawGrows
namespace Go.Proofs.Ytcieefggijjekaz
open Go.RowKit

theorem kone_at7 {w : World} {B : Nat} {y : Int} (h : w.cell? ⟨B, 0, none⟩ = some (.int .i64 y)) : ∀ j u, (kflat [y])[j]? = some u → w.cell? ((⟨B, 0, none⟩ : Addr).add j) = some u := by
  intro j u hj
  rcases j with _ | j
  · simp [kflat] at hj
    subst hj
    simpa [Addr.add] using h
  · simp [kflat] at hj
theorem pass_far {W V w4 : World} {row : Option Nat} {b : Nat} (hg : V.grownBy w4 row) (bV : Below W.heap.size W V) (hb : b < W.heap.size) (hne : row ≠ some b) : w4.heap[b]? = W.heap[b]? := (hg.block b (Nat.lt_of_lt_of_le hb bV.size) (Ne.symm hne)).trans (bV.block b hb)
theorem pass_but {W V w4 : World} {row : Option Nat} {P : Nat → Prop} (hg : V.grownBy w4 row) (bV : Below W.heap.size W V) (hr : ∀ k, row = some k → P k) : But P W w4 := (But.of bV).grown hg hr
theorem pass_kept {W V w4 : World} {base n : Nat} {t : TypeId} {u : Value} {cs : List Value} {row : Option Nat} (hg : V.grownBy w4 row) (bV : Below W.heap.size W V) (h : W.ownsRow base t 1 u n cs) (hr : ∀ g, u.ownBlock = some g → row = some g → False) : w4.ownsRow base t 1 u n cs :=
  owns_stay h fun g hu => pass_far hg bV (h.lt g hu).2 (fun e => hr g hu e)
set_option maxRecDepth 100000 in
set_option maxHeartbeats 8000000 in
theorem ipass_any (b base n : Nat) (wt x m sm : Int) (gs ws : List Int) (w : World) (h : QBox w b base n wt gs ws) (hb : b < base) (hs : base ≤ w.heap.size) (hn : n ≤ 100) (h0 : 0 ≤ wt ∧ wt ≤ 3000) (hx : 0 ≤ x ∧ x ≤ 60) (hm : 0 ≤ m) (hsm : lst7 (wt + x) m = sm) :
    Calls Try.prog 44 #[.pointer (some ⟨b, 0, none⟩), .int .i64 x, .int .i64 m] w fun e w' => e = .returned (.int .i64 sm) ∧ QBox w' b base (n + 1) (wt + x - sm) (gs ++ [sm]) (ws ++ [wt + x - sm]) ∧ (∀ j, 3 ≤ j → w'.cell? ⟨b, j, none⟩ = w.cell? ⟨b, j, none⟩ ∧ w'.frozen? ⟨b, j, none⟩ = w.frozen? ⟨b, j, none⟩) ∧ But (fun j => j = b ∨ base ≤ j) w w' := by
  obtain ⟨vg, vw, ⟨c0, c1, c2⟩, ⟨f0, f1, f2⟩, hg, hw, hap⟩ := h
  have HAP := hid hap
  have hmin := min7_run (wt + x) m
  rw [mn7_eq, hsm] at hmin
  have hsb : 0 ≤ sm ∧ sm ≤ wt + x := by
    rw [← hsm]
    have := lst7_le (wt + x) m
    rcases lst7_is (wt + x) m with e | e <;> rw [e] at this ⊢ <;> omega
  obtain ⟨y, hy⟩ : ∃ y, y = wt + x - sm := ⟨_, rfl⟩
  have hw1 : IntKind.i64.wrap (wt + x) = wt + x := by rw [IntKind.wrap_i64]; omega
  have hw2 : IntKind.i64.wrap (wt + x - sm) = y := by rw [IntKind.wrap_i64]; omega
  rw [← hy]
  obtain ⟨i0, hi, hz0, hz1, hz2⟩ := info_parts info_int
  have bV : But (fun j => j = b) w ((w.setCell ⟨b, 0, none⟩ (.int .i64 (wt + x))).setCell ⟨b, 0, none⟩ (.int .i64 y)) := ((But.refl _ _).setCell (P := fun j => j = b) rfl _).setCell rfl _
  have hsz : ((w.setCell ⟨b, 0, none⟩ (.int .i64 (wt + x))).setCell ⟨b, 0, none⟩ (.int .i64 y)).heap.size = w.heap.size := by rw [World.size_setCell, World.size_setCell]
  have HG : Hid (((w.setCell ⟨b, 0, none⟩ (.int .i64 (wt + x))).setCell ⟨b, 0, none⟩ (.int .i64 y)).ownsRow base 3 1 vg n (kflat gs)) := owns_only hg bV hb
  have HW : Hid (((w.setCell ⟨b, 0, none⟩ (.int .i64 (wt + x))).setCell ⟨b, 0, none⟩ (.int .i64 y)).ownsRow base 3 1 vw n (kflat ws)) := owns_only hw bV hb
  have KI : Hid (KReads (((w.setCell ⟨b, 0, none⟩ (.int .i64 (wt + x))).setCell ⟨b, 0, none⟩ (.int .i64 y)).alloc (.cells #[.int .i64 sm] 3)) (.slice (some ⟨w.heap.size, 0, none⟩) 1 1) [sm]) := by
    have := kreads_int ((w.setCell ⟨b, 0, none⟩ (.int .i64 (wt + x))).setCell ⟨b, 0, none⟩ (.int .i64 y)) sm
    rw [hsz] at this
    exact this
  have BV := hid bV
  have HSZ := hid hsz
  clear hg hw hap hsm bV hsz hy
  go_enter Try.func44, Try.ntmps44
  go_wp2_with (at_builtin; refine wpList_append_reads _ rfl _ _ rfl base _ _ _ rfl (HG.out.alloc _) _ [sm] rfl KI.out (by simp; omega) (by rw [World.size_alloc, HSZ.out]; omega) ?_)
  intro v3 w3 hown3' hgr3 hat3
  have hown3 : w3.ownsRow base 3 1 v3 (n + 1) (kflat (gs ++ [sm])) := hown3'
  have hbs : b < w.heap.size := lt_of_cell c0
  have O3 : Hid (w3.ownsRow base 3 1 v3 (n + 1) (kflat (gs ++ [sm]))) := hown3
  have hblk : w3.heap[b]? = ((w.setCell ⟨b, 0, none⟩ (.int .i64 (wt + x))).setCell ⟨b, 0, none⟩ (.int .i64 y)).heap[b]? := (hgr3.block b (by rw [World.size_alloc, HSZ.out]; omega) (fun e => by have := (HG.out.lt _ e.symm).1; omega)).trans (((Below.refl _ _).alloc (Nat.le_refl _) _).block b (by rw [HSZ.out]; exact hbs))
  have hone : OneCell b 0 w ((w.setCell ⟨b, 0, none⟩ (.int .i64 (wt + x))).setCell ⟨b, 0, none⟩ (.int .i64 y)) := (OneCell.set w b 0 _).trans (OneCell.set _ b 0 _)
  have hcl : ∀ i, i ≠ 0 → w3.cell? ⟨b, i, none⟩ = w.cell? ⟨b, i, none⟩ := fun i hi => (World.cell?_of_block (a := ⟨b, i, none⟩) hblk).trans (hone.1 i hi)
  have hfr : ∀ i, w3.frozen? ⟨b, i, none⟩ = w.frozen? ⟨b, i, none⟩ := fun i => (World.frozen?_of_block (a := ⟨b, i, none⟩) hblk).trans (hone.2.1 i)
  have q0 : w3.cell? ⟨b, 0, none⟩ = some (.int .i64 y) := by
    rw [World.cell?_of_block (a := ⟨b, 0, none⟩) hblk]
    exact World.cell?_setCell_same _ _ _ (World.cell?_setCell_same _ _ _ c0)
  have q1 := (hcl 1 (by omega)).trans c1
  have q2 := (hcl 2 (by omega)).trans c2
  have p0 := (hfr 0).trans f0
  have p1 := (hfr 1).trans f1
  have p2 := (hfr 2).trans f2
  have B3 : Hid (But (fun j => j = b ∨ base ≤ j) w w3) := ((BV.out.mono (Q := fun j => j = b ∨ base ≤ j) (fun j h => .inl h)).alloc _).grown hgr3 (fun k h => .inr (HG.out.lt _ h).1)
  have W3 : Hid (w3.ownsRow base 3 1 vw n (kflat ws)) := owns_rest7 (HW.out.alloc _) hgr3 (fun g h1 h2 => HAP.out g h2 h1)
  have AP3 : Hid (Apart7 v3 vw) := by
    intro g' h1 h2
    have hl8 := HW.out.lt g' h2
    rw [h1] at hat3
    rcases hat3 with h | h
    · exact HAP.out g' h.symm h2
    · injection h with h
      have := HSZ.out
      first | omega | (rw [World.size_alloc] at h; omega)
  obtain ⟨g3, cap3, rfl, hg3, hg3s⟩ := owns_pos O3.out
  have HCL := hid hcl
  have HFR := hid hfr
  have hs3 := B3.out.size
  clear hown3 hown3' hgr3 hat3 hblk hone hcl hfr HG HW KI BV HSZ c0 c1 c2 f0 f1 f2
  go_wp2_with fail
  obtain ⟨W, hW⟩ : ∃ W, W = w3.setCell ⟨b, 1, none⟩ (.slice (some ⟨g3, 0, none⟩) (n + 1) cap3) := ⟨_, rfl⟩
  rw [← hW]
  have cW0 : W.cell? ⟨b, 0, none⟩ = some (.int .i64 y) := by rw [hW, World.cell?_setCell_other _ _ _ _ (by simp)]; exact q0
  have cW1 : W.cell? ⟨b, 1, none⟩ = some (.slice (some ⟨g3, 0, none⟩) (n + 1) cap3) := by rw [hW]; exact World.cell?_setCell_same _ _ _ q1
  have cW2 : W.cell? ⟨b, 2, none⟩ = some vw := by rw [hW, World.cell?_setCell_other _ _ _ _ (by simp)]; exact q2
  have fW0 : W.frozen? ⟨b, 0, none⟩ = false := by rw [hW]; simpa using p0
  have fW1 : W.frozen? ⟨b, 1, none⟩ = false := by rw [hW]; simpa using p1
  have fW2 : W.frozen? ⟨b, 2, none⟩ = false := by rw [hW]; simpa using p2
  have bW : But (fun j => j = b) w3 W := by rw [hW]; exact (But.refl _ _).setCell (P := fun j => j = b) rfl _
  have HCW : Hid (∀ i, 3 ≤ i → W.cell? ⟨b, i, none⟩ = w.cell? ⟨b, i, none⟩ ∧ W.frozen? ⟨b, i, none⟩ = w.frozen? ⟨b, i, none⟩) := fun i hi => by
    have h1 := OneCell.set w3 b 1 (.slice (some ⟨g3, 0, none⟩) (n + 1) cap3)
    rw [← hW] at h1
    exact ⟨(h1.1 i (by omega)).trans (HCL.out i (by omega)), (h1.2.1 i).trans (HFR.out i)⟩
  have OW : Hid (W.ownsRow base 3 1 (.slice (some ⟨g3, 0, none⟩) (n + 1) cap3) (n + 1) (kflat (gs ++ [sm]))) := owns_only O3.out bW hb
  have WW : Hid (W.ownsRow base 3 1 vw n (kflat ws)) := owns_only W3.out bW hb
  have BW : Hid (But (fun j => j = b ∨ base ≤ j) w W) := B3.out.trans (bW.mono fun j h => .inl h)
  have hsW := BW.out.size
  have hbW : b < W.heap.size := by omega
  have hgW := (OW.out.lt g3 rfl).2
  clear hW bW q0 q1 q2 p0 p1 p2 HCL HFR O3 W3 B3 hs3 hg3s
  go_region_law
    ((refine step_append_lies _ (by rfl) _ _ _ (by rfl) base 3 i0 (.int .i64 0) 1 8 Try.underlying30 hi hz0 hz1 hz2 (by rfl) (by decide) vw n (kflat ws) (by rfl) (by first | exact WW.out.alloc _ | exact (WW.out.alloc _).drew | exact WW.out.drew.alloc _) ⟨W.heap.size, 0, none⟩ 1 1 (kflat [y]) (by rfl) (by rfl) (kone_at7 (by simp)) (kflat_one _) (by decide) (by unfold maxLen; omega) (by omega) (by simp; omega) (W.heap.size + 1) (by simp) ?_; intro g4 cap4 w4 hown4 hgr4 hat4 hlt4; have O4 := hid hown4; have HNE := (fun h => by have := (WW.out.lt _ h).1; omega : vw.ownBlock ≠ some b); have K4 := pass_far (W := W) hgr4 (by go_grown) hbW HNE; have z0 := (World.cell?_of_block (a := ⟨b, 0, none⟩) K4).trans cW0; have z1 := (World.cell?_of_block (a := ⟨b, 1, none⟩) K4).trans cW1; have z2 := (World.cell?_of_block (a := ⟨b, 2, none⟩) K4).trans cW2; have y0 := (World.frozen?_of_block (a := ⟨b, 0, none⟩) K4).trans fW0; have y1 := (World.frozen?_of_block (a := ⟨b, 1, none⟩) K4).trans fW1; have y2 := (World.frozen?_of_block (a := ⟨b, 2, none⟩) K4).trans fW2; have B4 := hid (pass_but (W := W) (P := fun j => j = b ∨ base ≤ j) hgr4 (by go_grown) (fun k h => .inr (WW.out.lt _ h).1)); have OG4 := hid (pass_kept hgr4 (by go_grown) OW.out (fun g h1 h2 => AP3.out g h1 h2)); have A4 := hid hat4; have KK4 := hid K4; clear hown4 hgr4 hat4 K4 HNE))
  all_goals
    have XO : Hid (OneCell b 2 w4 (w4.setCell ⟨b, 2, none⟩ (.slice (some ⟨g4, 0, none⟩) (n + 1) cap4))) := OneCell.set _ _ _ _
    have X2 : Hid ((w4.setCell ⟨b, 2, none⟩ (.slice (some ⟨g4, 0, none⟩) (n + 1) cap4)).cell? ⟨b, 2, none⟩ = some (.slice (some ⟨g4, 0, none⟩) (n + 1) cap4)) := World.cell?_setCell_same _ _ _ z2
    have AP4 : Hid (Apart7 (.slice (some ⟨g3, 0, none⟩) (n + 1) cap3) (.slice (some ⟨g4, 0, none⟩) (n + 1) cap4)) := by
      intro g' e1 e2
      rcases A4.out with e | e
      · exact AP3.out g' e1 (e.trans e2)
      · simp [Value.ownBlock] at e1 e2
        omega
    have Q4 : Hid (QBox (w4.setCell ⟨b, 2, none⟩ (.slice (some ⟨g4, 0, none⟩) (n + 1) cap4)) b base (n + 1) y (gs ++ [sm]) (ws ++ [y])) := by
      refine ⟨_, _, ⟨(XO.out.1 0 (by omega)).trans z0, (XO.out.1 1 (by omega)).trans z1, X2.out⟩, ⟨(XO.out.2.1 0).trans y0, (XO.out.2.1 1).trans y1, (XO.out.2.1 2).trans y2⟩, owns_only OG4.out XO.out.2.2 hb, ?_, AP4.out⟩
      rw [kflat_append]
      exact owns_only O4.out XO.out.2.2 hb
    have C4 : Hid (∀ j, 3 ≤ j → (w4.setCell ⟨b, 2, none⟩ (.slice (some ⟨g4, 0, none⟩) (n + 1) cap4)).cell? ⟨b, j, none⟩ = w.cell? ⟨b, j, none⟩ ∧ (w4.setCell ⟨b, 2, none⟩ (.slice (some ⟨g4, 0, none⟩) (n + 1) cap4)).frozen? ⟨b, j, none⟩ = w.frozen? ⟨b, j, none⟩) := fun j hj =>
      ⟨(XO.out.1 j (by omega)).trans ((World.cell?_of_block (a := ⟨b, j, none⟩) KK4.out).trans (HCW.out j hj).1), (XO.out.2.1 j).trans ((World.frozen?_of_block (a := ⟨b, j, none⟩) KK4.out).trans (HCW.out j hj).2)⟩
    have BX : Hid (But (fun j => j = b ∨ base ≤ j) w (w4.setCell ⟨b, 2, none⟩ (.slice (some ⟨g4, 0, none⟩) (n + 1) cap4))) := (BW.out.trans B4.out).trans (XO.out.2.2.mono fun j h => .inl h)
    go_wp2
    go_ret
    first | exact ⟨rfl, Q4.out, C4.out, BX.out⟩ | exact ⟨rfl, Q4.out, C4.out, BX.out.drew⟩
end Go.Proofs.Ytcieefggijjekaz
