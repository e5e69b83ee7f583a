/-
  spec.HearSpans: what is heard of, in memory of its own. Nothing old is written.
-/
import Derived.Test.YtnkpboobfkjibadSHearC
import Derived.Test.YtnkpboobfkjibadKSpanConv
import Derived.Test.YtnkpboobfkjibadSOwn11
import Derived.Test.YtnkpboobfkjibadKOwnS
namespace Go.Proofs.Ytnkpboobfkjibad
open Go.RowKit

set_option maxRecDepth 100000 in
set_option maxHeartbeats 8000000 in
theorem shear_app (v vl : Value) (D : SdD) (l : List Sp) (w : World) (hr : SdReads w v D) (hl : SpReads w vl l) (X : SdD) (F L : List Int) (t : Bool) (hX : hearSd D l = X) (hF : hearFr D l = F) (hL : hearLa D l = L) (ht : hearB D l = t) :
    Calls Try.prog 32 #[v, vl] w fun e w' => ∃ u0 u1 u2 S0 S1 S2, e = .returned (.tuple #[u0, u1, u2, .bool t]) ∧ SdOwnA S0 w' u0 X ∧ KOwnS S1 w' u1 F ∧ KOwnS S2 w' u2 L ∧
      ((∀ g, S0 g → S1 g → False) ∧ (∀ g, S0 g → S2 g → False) ∧ (∀ g, S1 g → S2 g → False)) ∧ (∀ g, S0 g ∨ S1 g ∨ S2 g → w.heap.size ≤ g ∧ g < w'.heap.size) ∧ Below w.heap.size w w' := by
  have HR := hid hr
  have RL := hid hl
  have HX := hid hX
  have HF := hid hF
  have HL := hid hL
  have HT := hid ht
  obtain ⟨v1, v2, rfl, r1, r2⟩ := hr
  have R1 := hid r1
  have R2 := hid r2
  obtain ⟨a1, p1, rfl, _, _⟩ := r1
  obtain ⟨a2, p2, rfl, _, _⟩ := r2
  obtain ⟨al, pl, rfl, _, _⟩ := hl
  obtain ⟨z, hz⟩ : ∃ z, z = D.f0 := ⟨_, rfl⟩
  have HZ := hid hz
  rw [← hz] at HR ⊢
  obtain ⟨t1, e1⟩ : ∃ b, goodSd D = b := ⟨_, rfl⟩
  have E1 := hid e1
  obtain ⟨PA, BA, hsA⟩ := box_three (w := w) (.int .i64 z) (.slice a1 D.f1.length p1) (.slice a2 D.f2.length p2) 49
  obtain ⟨W0, hW0⟩ : ∃ W, W = w.alloc (.cells #[.int .i64 z, .slice a1 D.f1.length p1, .slice a2 D.f2.length p2] 49) := ⟨_, rfl⟩
  rw [← hW0] at PA BA hsA
  obtain ⟨PR, BR, hsR⟩ := box_three (w := W0) (.int .i64 0) (.slice none 0 0) (.slice none 0 0) 49
  obtain ⟨W1, hW1⟩ : ∃ W, W = W0.alloc (.cells #[.int .i64 0, .slice none 0 0, .slice none 0 0] 49) := ⟨_, rfl⟩
  rw [← hW1] at PR BR hsR
  rw [hsA] at PR hsR
  have PA := hid (PA.below BR PA.lt)
  have PR := hid PR
  have B := hid (BA.trans (BR.mono (by omega)))
  rw [hW0] at hW1
  have HW := hid hW1
  obtain ⟨q0, q1, q2⟩ := PA.out.three
  rw [HW.out] at q0 q1 q2
  clear hz BA BR hW0 hW1 hsA hX hF hL ht e1
  go_enter Try.func32, Try.ntmps32
  go_wp2_with fail
  rw [← HW.out]
  clear HW q0 q1 q2
  refine (sgoodSd_eq _ D t1 E1.out _ (HR.out.below B.out)).mono ?_
  rintro e w1 ⟨rfl, b1⟩
  have hs1 := b1.size
  replace B := hid (B.out.trans (b1.mono B.out.size))
  replace PA := hid (PA.out.below b1 PA.out.lt)
  replace PR := hid (PR.out.below b1 PR.out.lt)
  clear b1
  have LEAF : Hid (t = false → X = ⟨0, [], []⟩ ∧ F = [] ∧ L = []) := fun h => by
    have h2 := HT.out
    rw [h] at h2
    refine ⟨?_, ?_, ?_⟩
    · rw [← HX.out]; unfold hearSd; rw [h2]; rfl
    · rw [← HF.out]; unfold hearFr; rw [h2]; rfl
    · rw [← HL.out]; unfold hearLa; rw [h2]; rfl
  cases t1
  · have HV : Hid (t = false) := by show _ = _; rw [← HT.out]; unfold hearB; rw [E1.out]; rfl
    have HV2 := hid (LEAF.out HV.out)
    obtain ⟨⟨y0, f0⟩, ⟨y1, f1⟩, y2, f2⟩ := PR.out.form3
    have LF := sd_leafA PR.out B.out (by omega) (sdOwnA_bare (Iv (w.heap.size + 2) (w.heap.size + 2)) w1 0) (by omega) (by omega) (by omega)
    have HO := hid LF.1
    have HB := hid LF.2.1
    obtain ⟨t0, t1, t2⟩ := LF.2.2
    clear LF
    go_wp2
    exact bodyPost_ret (v := .tuple #[.agg #[.int .i64 0, .slice none 0 0, .slice none 0 0], .slice none 0 0, .slice none 0 0, .bool false]) (by simp [results, Try.results32, go_sem, t0, t1, t2]) rfl
      ⟨_, _, _, _, fun _ => False, fun _ => False, by rw [HV.out], by rw [HV2.out.1]; exact HO.out, by rw [HV2.out.2.1]; exact ⟨0, 0, kown_nil _ _ _ _ _, fun g _ h => absurd h (by omega)⟩, by rw [HV2.out.2.2]; exact ⟨0, 0, kown_nil _ _ _ _ _, fun g _ h => absurd h (by omega)⟩, ⟨fun _ _ h => h, fun _ _ h => h, fun _ h _ => h⟩, fun g h => by rcases h with h | h | h; exact h; exact h.elim; exact h.elim, HB.out⟩
  obtain ⟨gb, gr⟩ := goodSd_parts E1.out
  obtain ⟨hz60, hl20, hl60⟩ := goodSd_few E1.out
  rw [← HZ.out] at hz60 gb gr
  obtain ⟨n, hn⟩ : ∃ n : Nat, z = (n : Int) := ⟨z.toNat, by omega⟩
  have hn60 : n ≤ 60 := by omega
  subst hn
  obtain ⟨t2, e2⟩ : ∃ b, belB l (n : Int) = b := ⟨_, rfl⟩
  have E2 := hid e2
  have HGB := hid gb
  obtain ⟨q0, q1, q2⟩ := PA.out.three
  clear gb gr hz60 e2
  go_wp2_with fail
  refine (sbel_eq _ l (n : Int) t2 E2.out _ (RL.out.below B.out)).mono ?_
  rintro e w2 ⟨rfl, b2⟩
  have hs2 := b2.size
  replace B := hid (B.out.trans (b2.mono B.out.size))
  replace PA := hid (PA.out.below b2 PA.out.lt)
  replace PR := hid (PR.out.below b2 PR.out.lt)
  clear b2 q0 q1 q2
  cases t2
  · skip
    have HV : Hid (t = false) := by show _ = _; rw [← HT.out]; unfold hearB; rw [← HZ.out, E2.out, Bool.false_and, Bool.and_false]
    have HV2 := hid (LEAF.out HV.out)
    obtain ⟨⟨y0, f0⟩, ⟨y1, f1⟩, y2, f2⟩ := PR.out.form3
    have LF := sd_leafA PR.out B.out (by omega) (sdOwnA_bare (Iv (w.heap.size + 2) (w.heap.size + 2)) w2 0) (by omega) (by omega) (by omega)
    have HO := hid LF.1
    have HB := hid LF.2.1
    obtain ⟨t0, t1, t2⟩ := LF.2.2
    clear LF
    go_wp2
    exact bodyPost_ret (v := .tuple #[.agg #[.int .i64 0, .slice none 0 0, .slice none 0 0], .slice none 0 0, .slice none 0 0, .bool false]) (by simp [results, Try.results32, go_sem, t0, t1, t2]) rfl
      ⟨_, _, _, _, fun _ => False, fun _ => False, by rw [HV.out], by rw [HV2.out.1]; exact HO.out, by rw [HV2.out.2.1]; exact ⟨0, 0, kown_nil _ _ _ _ _, fun g _ h => absurd h (by omega)⟩, by rw [HV2.out.2.2]; exact ⟨0, 0, kown_nil _ _ _ _ _, fun g _ h => absurd h (by omega)⟩, ⟨fun _ _ h => h, fun _ _ h => h, fun _ h _ => h⟩, fun g h => by rcases h with h | h | h; exact h; exact h.elim; exact h.elim, HB.out⟩
  have ga : goodL D.f1 = true := by have := HGB.out; unfold belB at this; rw [Bool.and_eq_true] at this; exact this.1
  have gl : goodL l = true := by have := E2.out; unfold belB at this; rw [Bool.and_eq_true] at this; exact this.1
  have HGC := hid (And.intro (good_chain ga) (good_chain gl))
  obtain ⟨q0, q1, q2⟩ := PA.out.three
  clear ga gl
  go_wp2_with fail
  refine (shearc_any _ _ D l n _ (HR.out.below B.out) (RL.out.below B.out) HZ.out.symm hn60 HGC.out.1 HGC.out.2).mono ?_
  rintro e w3 ⟨u0, u1, u2, rfl, c1, c2, rd, kf, kl, hc, b3⟩
  obtain ⟨x1, x2, rfl, rj, ro⟩ := rd.reads
  have RJ0 : Hid (SdReads w3 (.agg #[.int .i64 (n : Nat), x1, x2]) ⟨(n : Int), joinL D.f1 l, selU (lostF (joinL D.f1 l) D.f2) n⟩) := ⟨x1, x2, rfl, rj, ro⟩
  obtain ⟨aj, pj, rfl, _, _⟩ := rj
  obtain ⟨ao, po, rfl, _, _⟩ := ro
  dsimp only at RJ0 ⊢
  have hs3 := b3.size
  replace B := hid (B.out.trans (b3.mono B.out.size))
  replace PA := hid (PA.out.below b3 PA.out.lt)
  replace PR := hid (PR.out.below b3 PR.out.lt)
  have KF := hid kf
  have KL := hid kl
  have HC := hid hc
  clear b3 q0 q1 q2 kf kl hc
  obtain ⟨P5, B5, hs5⟩ := box_three (w := w3) (.int .i64 (n : Nat)) (.slice aj (joinL D.f1 l).length pj) (.slice ao (selU (lostF (joinL D.f1 l) D.f2) n).length po) 49
  obtain ⟨W5, hW5⟩ : ∃ W, W = w3.alloc (.cells #[.int .i64 (n : Nat), .slice aj (joinL D.f1 l).length pj, .slice ao (selU (lostF (joinL D.f1 l) D.f2) n).length po] 49) := ⟨_, rfl⟩
  rw [← hW5] at P5 B5 hs5
  have H5 := hid P5
  replace B := hid (B.out.trans (B5.mono B.out.size))
  replace PA := hid (PA.out.below B5 PA.out.lt)
  replace PR := hid (PR.out.below B5 PR.out.lt)
  have RJ := hid (RJ0.out.below B5)
  replace KF := hid (KF.out.below B5)
  replace KL := hid (KL.out.below B5)
  have HW5 := hid hW5
  have hs50 : w3.heap.size + 1 ≤ W5.heap.size := by omega
  clear P5 B5 hs5 hW5 RJ0
  have hnl := selU_len (lostF (joinL D.f1 l) D.f2) n
  by_cases h20 : (joinL D.f1 l).length ≤ 20
  rotate_left
  · rw [decide_eq_false h20]
    have HV : Hid (t = false) := by show _ = _; rw [← HT.out]; unfold hearB; rw [decide_eq_false h20, Bool.and_false, Bool.and_false]
    have HV2 := hid (LEAF.out HV.out)
    obtain ⟨⟨y0, f0⟩, ⟨y1, f1⟩, y2, f2⟩ := PR.out.form3
    have LF := sd_leafA PR.out B.out (by omega) (sdOwnA_bare (Iv (w.heap.size + 2) (w.heap.size + 2)) W5 0) (by omega) (by omega) (by omega)
    have HO := hid LF.1
    have HB := hid LF.2.1
    obtain ⟨t0, t1, t2⟩ := LF.2.2
    clear LF
    rw [HW5.out] at y0 f0 y1 f1 y2 f2
    go_wp2
    rw [← HW5.out]
    exact bodyPost_ret (v := .tuple #[.agg #[.int .i64 0, .slice none 0 0, .slice none 0 0], .slice none 0 0, .slice none 0 0, .bool false]) (by simp [results, Try.results32, go_sem, t0, t1, t2]) rfl
      ⟨_, _, _, by rw [HV.out], _, by rw [HV2.out.1]; exact HO.out, fun _ => False, by rw [HV2.out.2.1]; exact ⟨0, 0, kown_nil _ _ _ _ _, fun g _ h => absurd h (by omega)⟩, fun _ => False, by rw [HV2.out.2.2]; exact ⟨0, 0, kown_nil _ _ _ _ _, fun g _ h => absurd h (by omega)⟩, ⟨fun _ _ h => h, fun _ _ h => h, fun _ h _ => h⟩, fun g h => by rcases h with h | h | h; exact h; exact h.elim; exact h.elim, HB.out⟩
  rw [decide_eq_true h20]
  have HTT : Hid (t = true) := by show _ = _; rw [← HT.out]; unfold hearB; rw [E1.out, ← HZ.out, E2.out, decide_eq_true h20]; rfl
  have HXX : Hid (X = ⟨(n : Int), joinL D.f1 l, selU (lostF (joinL D.f1 l) D.f2) n⟩) := by show _ = _; rw [← HX.out]; unfold hearSd; rw [HT.out, HTT.out, ← HZ.out]; rfl
  have HFF : Hid (F = selU (freshF (joinL D.f1 l) D.f1) n) := by show _ = _; rw [← HF.out]; unfold hearFr; rw [HT.out, HTT.out, ← HZ.out]; rfl
  have HLL : Hid (L = selU (lateF (joinL D.f1 l) D.f2) n) := by show _ = _; rw [← HL.out]; unfold hearLa; rw [HT.out, HTT.out, ← HZ.out]; rfl
  obtain ⟨x0, x1, x2⟩ := H5.out.three
  rw [HW5.out] at x0 x1 x2
  clear LEAF
  go_wp2_with fail
  rw [← HW5.out]
  refine (sown11_app _ ⟨(n : Int), joinL D.f1 l, selU (lostF (joinL D.f1 l) D.f2) n⟩ _ RJ.out (by show (joinL D.f1 l).length ≤ 1000; omega) (by show (selU (lostF (joinL D.f1 l) D.f2) n).length ≤ 1000; omega)).mono ?_
  rintro e w6 ⟨u6, rfl, o6, b6⟩
  obtain ⟨a5, m5, q5, a9, m9, q9, rfl⟩ := o6.form
  have hs6 := b6.size
  replace B := hid (B.out.trans (b6.mono B.out.size))
  replace PR := hid (PR.out.below b6 PR.out.lt)
  replace KF := hid (KF.out.below b6)
  replace KL := hid (KL.out.below b6)
  have O6 := hid o6
  clear b6 x0 x1 x2 HW5 H5 RJ o6
  obtain ⟨⟨y0, f0⟩, ⟨y1, f1⟩, y2, f2⟩ := PR.out.form3
  obtain ⟨t0, t1, t2⟩ := (three_put PR.out (.int .i64 (n : Nat)) (.slice a5 m5 q5) (.slice a9 m9 q9)).three
  have ON := three_only w6 (w.heap.size + 1) (.int .i64 (n : Nat)) (.slice a5 m5 q5) (.slice a9 m9 q9)
  have BL := three_below (lo := w.heap.size) (b := w.heap.size + 1) w6 (.int .i64 (n : Nat)) (.slice a5 m5 q5) (.slice a9 m9 q9) (by omega)
  obtain ⟨WZ, hWZ⟩ : ∃ WZ, WZ = ((w6.setCell ⟨w.heap.size + 1, 0, none⟩ (.int .i64 (n : Nat))).setCell ⟨w.heap.size + 1, 1, none⟩ (.slice a5 m5 q5)).setCell ⟨w.heap.size + 1, 2, none⟩ (.slice a9 m9 q9) := ⟨_, rfl⟩
  rw [← hWZ] at t0 t1 t2 ON BL
  have hcc := HC.out
  have HO := hid (O6.out.at (w' := WZ) fun g hg _ => ON.2.1 g (by unfold Iv at hg; omega))
  have HF1 := hid ((KF.out.at (w' := WZ) fun g h1 h2 _ => ON.2.1 g (by omega)).inS)
  have HF2 := hid ((KL.out.at (w' := WZ) fun g h1 h2 _ => ON.2.1 g (by omega)).inS)
  have HBZ := hid (B.out.trans BL)
  have hsz : WZ.heap.size = w6.heap.size := ON.1
  have HSZ := hid hsz
  have HWZ := hid hWZ
  clear ON BL hWZ hsz O6 KF KL hcc
  go_wp2
  rw [← HWZ.out]
  refine bodyPost_ret (v := .tuple #[.agg #[.int .i64 (n : Nat), .slice a5 m5 q5, .slice a9 m9 q9], u1, u2, .bool true]) (by simp [results, Try.results32, go_sem, t0, t1, t2]) rfl ⟨_, _, _, _, _, _, by rw [HTT.out], by rw [HXX.out]; exact HO.out, by rw [HFF.out]; exact HF1.out, by rw [HLL.out]; exact HF2.out, ⟨?_, ?_, ?_⟩, ?_, HBZ.out⟩
  · intro g h1 h2; have := HC.out; unfold Iv at h1 h2; omega
  · intro g h1 h2; have := HC.out; unfold Iv at h1 h2; omega
  · intro g h1 h2; have := HC.out.1; unfold Dj at this; unfold Iv at h1 h2; omega
  · intro g h; have := HC.out; have := HSZ.out; unfold Iv at h; omega
theorem shear_any (v vl : Value) (D : SdD) (l : List Sp) (w : World) (hr : SdReads w v D) (hl : SpReads w vl l) (X : SdD) (F L : List Int) (t : Bool) (hX : hearSd D l = X) (hF : hearFr D l = F) (hL : hearLa D l = L) (ht : hearB D l = t) :
    Calls Try.prog 32 #[v, vl] w fun e w' => ∃ u0 u1 u2 S0 S1 S2, e = .returned (.tuple #[u0, u1, u2, .bool t]) ∧ SdOwn S0 w' u0 X ∧ KOwnS S1 w' u1 F ∧ KOwnS S2 w' u2 L ∧
      ((∀ g, S0 g → S1 g → False) ∧ (∀ g, S0 g → S2 g → False) ∧ (∀ g, S1 g → S2 g → False)) ∧ (∀ g, S0 g ∨ S1 g ∨ S2 g → w.heap.size ≤ g ∧ g < w'.heap.size) ∧ Below w.heap.size w w' :=
  (shear_app v vl D l w hr hl X F L t hX hF hL ht).mono fun _ _ ⟨u0, u1, u2, S0, S1, S2, e, o, r⟩ => ⟨u0, u1, u2, S0, S1, S2, e, o.own, r⟩
end Go.Proofs.Ytnkpboobfkjibad
