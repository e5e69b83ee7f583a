/-
  spec.l15Own: a greeting's rows are copied.
-/
import Derived.Test.YtdlkilacnnjglaaPut11
import Derived.Deep.DeepCutAuto
namespace Go.Proofs.Ytdlkilacnnjglaa
open Go.RowKit

set_option maxRecDepth 100000 in
set_option maxHeartbeats 8000000 in
theorem l15Own_any (D : GrD) (v : Value) (w : World) (hR : GrReads w v D) (h8 : D.f8.length ≤ 300) (h9 : D.f9.length ≤ 300) (h10 : D.f10.length ≤ 300) :
    Calls Try.prog 63 #[v] w fun e w' => ∃ u, e = .returned u ∧ GrU w.heap.size w' u D ∧ Below w.heap.size w w' := by
  obtain ⟨v8, v9, v10, rfl, r8, r9, r10⟩ := hR
  have R8 := hid r8
  have R9 := hid r9
  have R10 := hid r10
  obtain ⟨a8, c8, rfl, _⟩ := r8
  obtain ⟨a9, c9, rfl, _⟩ := r9
  obtain ⟨a10, c10, rfl, _⟩ := r10
  obtain ⟨z0, z1, z2, z3, z4, z5, z6, z7, L8, L9, L10⟩ := D
  simp only at h8 h9 h10 R8 R9 R10 ⊢
  obtain ⟨W, hW⟩ : ∃ W, W = (w.alloc (.cells #[.int .i64 z0, .int .i64 z1, .int .i64 z2, .int .i64 z3, .int .i64 z4, .int .i64 z5, .int .i64 z6, .int .i64 z7, .slice a8 L8.length c8, .slice a9 L9.length c9, .slice a10 L10.length c10] 49)).alloc (.cells #[.int .i64 0, .int .i64 0, .int .i64 0, .int .i64 0, .int .i64 0, .int .i64 0, .int .i64 0, .int .i64 0, .slice none 0 0, .slice none 0 0, .slice none 0 0] 49) := ⟨_, rfl⟩
  have HB : Hid (Boxes2 w W ⟨z0, z1, z2, z3, z4, z5, z6, z7, L8, L9, L10⟩ (.slice a8 L8.length c8) (.slice a9 L9.length c9) (.slice a10 L10.length c10)) := by show Boxes2 _ _ _ _ _ _; rw [hW]; exact boxes2 w ⟨z0, z1, z2, z3, z4, z5, z6, z7, L8, L9, L10⟩ (.slice a8 L8.length c8) (.slice a9 L9.length c9) (.slice a10 L10.length c10)
  have HW := hid hW
  have HBS := hid HB.out.s
  clear hW
  have GB : Hid (BoxL W w.heap.size [.int .i64 z0, .int .i64 z1, .int .i64 z2, .int .i64 z3, .int .i64 z4, .int .i64 z5, .int .i64 z6, .int .i64 z7, .slice a8 L8.length c8, .slice a9 L9.length c9, .slice a10 L10.length c10]) := HB.out.g
  have RB := hid HB.out.r
  have BB := hid HB.out.b
  have UW := hid (rowsU_bare w.heap.size W)
  obtain ⟨q0, q1, q2, q3, q4, q5, q6, q7, q8, q9, q10⟩ := GB.out.eleven
  obtain ⟨g0, g1, g2, g3, g4, g5, g6, g7, g8, g9, g10⟩ := GB.out.frozen11
  obtain ⟨r0, r1, r2, r3, r4, r5, r6, r7, r8, r9, r10⟩ := RB.out.eleven
  obtain ⟨f0, f1, f2, f3, f4, f5, f6, f7, f8, f9, f10⟩ := RB.out.frozen11
  go_enter Try.func63, Try.ntmps63
  go_upto_region 1 with fail
  rw [← HW.out]
  clear HW
  have hsz : w.heap.size + 2 ≤ W.heap.size := by have := HBS.out; omega
  have HSZ := hid hsz
  clear hsz
  obtain ⟨k0, k1, k2, k3, k4, k5, k6, k7, k8, k9, k10⟩ := (GB.out.below ((Below.refl (W).heap.size (W)).alloc (Nat.le_refl _) (.cells #[] 116)) (by have := HSZ.out; omega)).eleven
  go_wp2_with (at_builtin; refine wpList_append_he _ rfl _ _ rfl (W).heap.size _ 0 [] rfl (heowns_lit (W) _ (Nat.le_refl _)) _ L8 rfl (R8.out.below (BB.out.alloc BB.out.size _)) (by simp; omega) (by simp) ?_)
  intro u8 w1 ho hg hat
  obtain ⟨au8, cu8, rfl, _⟩ := heowns_form (n := L8.length) ho
  clear q0 q1 q2 q3 q4 q5 q6 q7 q8 q9 q10 g0 g1 g2 g3 g4 g5 g6 g7 g8 g9 g10 r0 r1 r2 r3 r4 r5 r6 r7 r8 r9 r10 f0 f1 f2 f3 f4 f5 f6 f7 f8 f9 f10
  clear k0 k1 k2 k3 k4 k5 k6 k7 k8 k9 k10
  have bg : Below (W).heap.size (W) w1 := ((Below.refl _ _).alloc (Nat.le_refl _) (.cells #[] 116)).grown hg (by simp) (by intro k hk; simp [Value.ownBlock] at hk; omega)
  have ho2 : w1.ownsRow (W).heap.size 116 3 (.slice au8 L8.length cu8) L8.length (heflat L8) := ho
  replace UW := hid (UW.out.new8 (by omega) ho2 bg (by have := HSZ.out; omega))
  replace GB := hid (GB.out.below bg (by have := HSZ.out; omega))
  replace RB := hid (RB.out.below bg (by have := HSZ.out; omega))
  replace BB := hid (BB.out.trans (bg.mono (by have := HSZ.out; omega)))
  have HX8 : Hid (∀ k, (Value.slice au8 L8.length cu8).ownBlock = some k → w.heap.size + 2 ≤ k) := fun k hk => by have h1 := (heowns_lt ho2 k hk).1; have h2 := HSZ.out; omega
  have HX9 : Hid (∀ k, (Value.slice none 0 0).ownBlock = some k → w.heap.size + 2 ≤ k) := fun k hk => by cases hk
  have HX10 : Hid (∀ k, (Value.slice none 0 0).ownBlock = some k → w.heap.size + 2 ≤ k) := fun k hk => by cases hk
  have hs2 : (W).heap.size ≤ w1.heap.size := bg.size
  have HS : Hid (w.heap.size + 2 ≤ w1.heap.size) := by have := HSZ.out; show _ ≤ _; omega
  clear ho ho2 hg hat bg hs2 HSZ
  obtain ⟨q0, q1, q2, q3, q4, q5, q6, q7, q8, q9, q10⟩ := GB.out.eleven
  obtain ⟨g0, g1, g2, g3, g4, g5, g6, g7, g8, g9, g10⟩ := GB.out.frozen11
  obtain ⟨r0, r1, r2, r3, r4, r5, r6, r7, r8, r9, r10⟩ := RB.out.eleven
  obtain ⟨f0, f1, f2, f3, f4, f5, f6, f7, f8, f9, f10⟩ := RB.out.frozen11
  have HV8 : Hid ((Value.slice au8 L8.length cu8).ownBlock ≠ some w.heap.size) := fun e => absurd (HX8.out _ e) (by omega)
  have HV9 : Hid ((Value.slice none 0 0).ownBlock ≠ some w.heap.size) := fun e => absurd (HX9.out _ e) (by omega)
  have HV10 : Hid ((Value.slice none 0 0).ownBlock ≠ some w.heap.size) := fun e => absurd (HX10.out _ e) (by omega)
  replace UW := hid (UW.out.set (j := 8) (b := w.heap.size) (.slice au8 L8.length cu8) HV8.out HV9.out HV10.out)
  replace GB : Hid (BoxL (w1.setCell ⟨w.heap.size, 8, none⟩ (.slice au8 L8.length cu8)) w.heap.size [.int .i64 z0, .int .i64 z1, .int .i64 z2, .int .i64 z3, .int .i64 z4, .int .i64 z5, .int .i64 z6, .int .i64 z7, .slice au8 L8.length cu8, .slice a9 L9.length c9, .slice a10 L10.length c10]) := GB.out.set 8 (by simp) _
  replace RB : Hid (BoxL (w1.setCell ⟨w.heap.size, 8, none⟩ (.slice au8 L8.length cu8)) (w.heap.size + 1) zeroC) := RB.out.but ((But.refl _ _).setCell (P := fun k => k = w.heap.size) (p := ⟨w.heap.size, 8, none⟩) rfl _) (by omega)
  replace BB : Hid (Below w.heap.size w (w1.setCell ⟨w.heap.size, 8, none⟩ (.slice au8 L8.length cu8))) := BB.out.setCell (Nat.le_refl _) _
  replace HS : Hid (w.heap.size + 2 ≤ (w1.setCell ⟨w.heap.size, 8, none⟩ (.slice au8 L8.length cu8)).heap.size) := by show _ ≤ _; have := HS.out; simp [World.setCell]; omega
  clear HV8 HV9 HV10
  obtain ⟨V0, hV0⟩ : ∃ V, V = (w1.setCell ⟨w.heap.size, 8, none⟩ (.slice au8 L8.length cu8)) := ⟨_, rfl⟩
  go_upto_region 2 with fail
  rw [← hV0] at UW GB RB BB HS ⊢
  clear hV0
  clear q0 q1 q2 q3 q4 q5 q6 q7 q8 q9 q10 g0 g1 g2 g3 g4 g5 g6 g7 g8 g9 g10 r0 r1 r2 r3 r4 r5 r6 r7 r8 r9 r10 f0 f1 f2 f3 f4 f5 f6 f7 f8 f9 f10
  obtain ⟨q0, q1, q2, q3, q4, q5, q6, q7, q8, q9, q10⟩ := GB.out.eleven
  obtain ⟨g0, g1, g2, g3, g4, g5, g6, g7, g8, g9, g10⟩ := GB.out.frozen11
  obtain ⟨r0, r1, r2, r3, r4, r5, r6, r7, r8, r9, r10⟩ := RB.out.eleven
  obtain ⟨f0, f1, f2, f3, f4, f5, f6, f7, f8, f9, f10⟩ := RB.out.frozen11
  have hsz : w.heap.size + 2 ≤ V0.heap.size := by have := HBS.out; have := HS.out; omega
  have HSZ := hid hsz
  clear hsz
  obtain ⟨k0, k1, k2, k3, k4, k5, k6, k7, k8, k9, k10⟩ := (GB.out.below ((Below.refl (V0).heap.size (V0)).alloc (Nat.le_refl _) (.cells #[] 116)) (by have := HSZ.out; omega)).eleven
  go_wp2_with (at_builtin; refine wpList_append_he _ rfl _ _ rfl (V0).heap.size _ 0 [] rfl (heowns_lit (V0) _ (Nat.le_refl _)) _ L9 rfl (R9.out.below (BB.out.alloc BB.out.size _)) (by simp; omega) (by simp) ?_)
  intro u9 w2 ho hg hat
  obtain ⟨au9, cu9, rfl, _⟩ := heowns_form (n := L9.length) ho
  clear q0 q1 q2 q3 q4 q5 q6 q7 q8 q9 q10 g0 g1 g2 g3 g4 g5 g6 g7 g8 g9 g10 r0 r1 r2 r3 r4 r5 r6 r7 r8 r9 r10 f0 f1 f2 f3 f4 f5 f6 f7 f8 f9 f10
  clear k0 k1 k2 k3 k4 k5 k6 k7 k8 k9 k10
  have bg : Below (V0).heap.size (V0) w2 := ((Below.refl _ _).alloc (Nat.le_refl _) (.cells #[] 116)).grown hg (by simp) (by intro k hk; simp [Value.ownBlock] at hk; omega)
  have ho2 : w2.ownsRow (V0).heap.size 116 3 (.slice au9 L9.length cu9) L9.length (heflat L9) := ho
  replace UW := hid (UW.out.new9 (by omega) ho2 bg (by have := HSZ.out; omega))
  replace GB := hid (GB.out.below bg (by have := HSZ.out; omega))
  replace RB := hid (RB.out.below bg (by have := HSZ.out; omega))
  replace BB := hid (BB.out.trans (bg.mono (by have := HSZ.out; omega)))
  have HX9 : Hid (∀ k, (Value.slice au9 L9.length cu9).ownBlock = some k → w.heap.size + 2 ≤ k) := fun k hk => by have h1 := (heowns_lt ho2 k hk).1; have h2 := HSZ.out; omega
  have hs2 : (V0).heap.size ≤ w2.heap.size := bg.size
  have HS : Hid (w.heap.size + 2 ≤ w2.heap.size) := by have := HSZ.out; show _ ≤ _; omega
  clear ho ho2 hg hat bg hs2 HSZ
  obtain ⟨q0, q1, q2, q3, q4, q5, q6, q7, q8, q9, q10⟩ := GB.out.eleven
  obtain ⟨g0, g1, g2, g3, g4, g5, g6, g7, g8, g9, g10⟩ := GB.out.frozen11
  obtain ⟨r0, r1, r2, r3, r4, r5, r6, r7, r8, r9, r10⟩ := RB.out.eleven
  obtain ⟨f0, f1, f2, f3, f4, f5, f6, f7, f8, f9, f10⟩ := RB.out.frozen11
  have HV8 : Hid ((Value.slice au8 L8.length cu8).ownBlock ≠ some w.heap.size) := fun e => absurd (HX8.out _ e) (by omega)
  have HV9 : Hid ((Value.slice au9 L9.length cu9).ownBlock ≠ some w.heap.size) := fun e => absurd (HX9.out _ e) (by omega)
  have HV10 : Hid ((Value.slice none 0 0).ownBlock ≠ some w.heap.size) := fun e => absurd (HX10.out _ e) (by omega)
  replace UW := hid (UW.out.set (j := 9) (b := w.heap.size) (.slice au9 L9.length cu9) HV8.out HV9.out HV10.out)
  replace GB : Hid (BoxL (w2.setCell ⟨w.heap.size, 9, none⟩ (.slice au9 L9.length cu9)) w.heap.size [.int .i64 z0, .int .i64 z1, .int .i64 z2, .int .i64 z3, .int .i64 z4, .int .i64 z5, .int .i64 z6, .int .i64 z7, .slice au8 L8.length cu8, .slice au9 L9.length cu9, .slice a10 L10.length c10]) := GB.out.set 9 (by simp) _
  replace RB : Hid (BoxL (w2.setCell ⟨w.heap.size, 9, none⟩ (.slice au9 L9.length cu9)) (w.heap.size + 1) zeroC) := RB.out.but ((But.refl _ _).setCell (P := fun k => k = w.heap.size) (p := ⟨w.heap.size, 9, none⟩) rfl _) (by omega)
  replace BB : Hid (Below w.heap.size w (w2.setCell ⟨w.heap.size, 9, none⟩ (.slice au9 L9.length cu9))) := BB.out.setCell (Nat.le_refl _) _
  replace HS : Hid (w.heap.size + 2 ≤ (w2.setCell ⟨w.heap.size, 9, none⟩ (.slice au9 L9.length cu9)).heap.size) := by show _ ≤ _; have := HS.out; simp [World.setCell]; omega
  clear HV8 HV9 HV10
  obtain ⟨V1, hV1⟩ : ∃ V, V = (w2.setCell ⟨w.heap.size, 9, none⟩ (.slice au9 L9.length cu9)) := ⟨_, rfl⟩
  go_upto_region 3 with fail
  rw [← hV1] at UW GB RB BB HS ⊢
  clear hV1
  clear q0 q1 q2 q3 q4 q5 q6 q7 q8 q9 q10 g0 g1 g2 g3 g4 g5 g6 g7 g8 g9 g10 r0 r1 r2 r3 r4 r5 r6 r7 r8 r9 r10 f0 f1 f2 f3 f4 f5 f6 f7 f8 f9 f10
  obtain ⟨q0, q1, q2, q3, q4, q5, q6, q7, q8, q9, q10⟩ := GB.out.eleven
  obtain ⟨g0, g1, g2, g3, g4, g5, g6, g7, g8, g9, g10⟩ := GB.out.frozen11
  obtain ⟨r0, r1, r2, r3, r4, r5, r6, r7, r8, r9, r10⟩ := RB.out.eleven
  obtain ⟨f0, f1, f2, f3, f4, f5, f6, f7, f8, f9, f10⟩ := RB.out.frozen11
  have hsz : w.heap.size + 2 ≤ V1.heap.size := by have := HBS.out; have := HS.out; omega
  have HSZ := hid hsz
  clear hsz
  obtain ⟨k0, k1, k2, k3, k4, k5, k6, k7, k8, k9, k10⟩ := (GB.out.below ((Below.refl (V1).heap.size (V1)).alloc (Nat.le_refl _) (.cells #[] 116)) (by have := HSZ.out; omega)).eleven
  go_wp2_with (at_builtin; refine wpList_append_he _ rfl _ _ rfl (V1).heap.size _ 0 [] rfl (heowns_lit (V1) _ (Nat.le_refl _)) _ L10 rfl (R10.out.below (BB.out.alloc BB.out.size _)) (by simp; omega) (by simp) ?_)
  intro u10 w3 ho hg hat
  obtain ⟨au10, cu10, rfl, _⟩ := heowns_form (n := L10.length) ho
  clear q0 q1 q2 q3 q4 q5 q6 q7 q8 q9 q10 g0 g1 g2 g3 g4 g5 g6 g7 g8 g9 g10 r0 r1 r2 r3 r4 r5 r6 r7 r8 r9 r10 f0 f1 f2 f3 f4 f5 f6 f7 f8 f9 f10
  clear k0 k1 k2 k3 k4 k5 k6 k7 k8 k9 k10
  have bg : Below (V1).heap.size (V1) w3 := ((Below.refl _ _).alloc (Nat.le_refl _) (.cells #[] 116)).grown hg (by simp) (by intro k hk; simp [Value.ownBlock] at hk; omega)
  have ho2 : w3.ownsRow (V1).heap.size 116 3 (.slice au10 L10.length cu10) L10.length (heflat L10) := ho
  replace UW := hid (UW.out.new10 (by omega) ho2 bg (by have := HSZ.out; omega))
  replace GB := hid (GB.out.below bg (by have := HSZ.out; omega))
  replace RB := hid (RB.out.below bg (by have := HSZ.out; omega))
  replace BB := hid (BB.out.trans (bg.mono (by have := HSZ.out; omega)))
  have HX10 : Hid (∀ k, (Value.slice au10 L10.length cu10).ownBlock = some k → w.heap.size + 2 ≤ k) := fun k hk => by have h1 := (heowns_lt ho2 k hk).1; have h2 := HSZ.out; omega
  have hs2 : (V1).heap.size ≤ w3.heap.size := bg.size
  have HS : Hid (w.heap.size + 2 ≤ w3.heap.size) := by have := HSZ.out; show _ ≤ _; omega
  clear ho ho2 hg hat bg hs2 HSZ
  obtain ⟨q0, q1, q2, q3, q4, q5, q6, q7, q8, q9, q10⟩ := GB.out.eleven
  obtain ⟨g0, g1, g2, g3, g4, g5, g6, g7, g8, g9, g10⟩ := GB.out.frozen11
  obtain ⟨r0, r1, r2, r3, r4, r5, r6, r7, r8, r9, r10⟩ := RB.out.eleven
  obtain ⟨f0, f1, f2, f3, f4, f5, f6, f7, f8, f9, f10⟩ := RB.out.frozen11
  have HV8 : Hid ((Value.slice au8 L8.length cu8).ownBlock ≠ some w.heap.size) := fun e => absurd (HX8.out _ e) (by omega)
  have HV9 : Hid ((Value.slice au9 L9.length cu9).ownBlock ≠ some w.heap.size) := fun e => absurd (HX9.out _ e) (by omega)
  have HV10 : Hid ((Value.slice au10 L10.length cu10).ownBlock ≠ some w.heap.size) := fun e => absurd (HX10.out _ e) (by omega)
  replace UW := hid (UW.out.set (j := 10) (b := w.heap.size) (.slice au10 L10.length cu10) HV8.out HV9.out HV10.out)
  replace GB : Hid (BoxL (w3.setCell ⟨w.heap.size, 10, none⟩ (.slice au10 L10.length cu10)) w.heap.size [.int .i64 z0, .int .i64 z1, .int .i64 z2, .int .i64 z3, .int .i64 z4, .int .i64 z5, .int .i64 z6, .int .i64 z7, .slice au8 L8.length cu8, .slice au9 L9.length cu9, .slice au10 L10.length cu10]) := GB.out.set 10 (by simp) _
  replace RB : Hid (BoxL (w3.setCell ⟨w.heap.size, 10, none⟩ (.slice au10 L10.length cu10)) (w.heap.size + 1) zeroC) := RB.out.but ((But.refl _ _).setCell (P := fun k => k = w.heap.size) (p := ⟨w.heap.size, 10, none⟩) rfl _) (by omega)
  replace BB : Hid (Below w.heap.size w (w3.setCell ⟨w.heap.size, 10, none⟩ (.slice au10 L10.length cu10))) := BB.out.setCell (Nat.le_refl _) _
  replace HS : Hid (w.heap.size + 2 ≤ (w3.setCell ⟨w.heap.size, 10, none⟩ (.slice au10 L10.length cu10)).heap.size) := by show _ ≤ _; have := HS.out; simp [World.setCell]; omega
  clear HV8 HV9 HV10
  have HNR : Hid (¬ Bk (.slice au8 L8.length cu8) (.slice au9 L9.length cu9) (.slice au10 L10.length cu10) (w.heap.size + 1)) := fun hk => by
    rcases hk with hk | hk | hk
    · have := HX8.out _ hk; omega
    · have := HX9.out _ hk; omega
    · have := HX10.out _ hk; omega
  have LF := gr_leaf (w := w) (v8 := .slice none 0 0) (v9 := .slice none 0 0) (v10 := .slice none 0 0) (D := ⟨z0, z1, z2, z3, z4, z5, z6, z7, L8, L9, L10⟩) RB.out UW.out ⟨But.of BB.out, fun k hk => .inr (UW.out.blk hk).1⟩ (b := w.heap.size + 1) (by omega) HNR.out
  dsimp only at LF
  have HL : Hid (GrU w.heap.size _ (grV ⟨z0, z1, z2, z3, z4, z5, z6, z7, L8, L9, L10⟩ (.slice au8 L8.length cu8) (.slice au9 L9.length cu9) (.slice au10 L10.length cu10)) ⟨z0, z1, z2, z3, z4, z5, z6, z7, L8, L9, L10⟩) := ⟨_, _, _, rfl, LF.1.1⟩
  have HBL := hid ((LF.1.2.but.to (Nat.le_refl _) fun k hk hb => by rcases hb with hb | hb | hb <;> cases hb))
  obtain ⟨t0, t1, t2, t3, t4, t5, t6, t7, t8, t9, t10⟩ := LF.2.eleven
  clear LF
  go_wp2
  exact bodyPost_ret (v := grV ⟨z0, z1, z2, z3, z4, z5, z6, z7, L8, L9, L10⟩ (.slice au8 L8.length cu8) (.slice au9 L9.length cu9) (.slice au10 L10.length cu10)) (by simp [results, Try.results63, go_sem, t0, t1, t2, t3, t4, t5, t6, t7, t8, t9, t10]) rfl ⟨_, rfl, HL.out, HBL.out⟩
end Go.Proofs.Ytdlkilacnnjglaa
