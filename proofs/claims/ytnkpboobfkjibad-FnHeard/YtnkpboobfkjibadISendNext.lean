/-
  impl.SendNext: the next letter is sent, in memory of its own. Nothing old is written.
-/
import Derived.Test.YtnkpboobfkjibadSSendNext
import Derived.Test.YtnkpboobfkjibadIGoodSd
import Derived.Test.YtnkpboobfkjibadSdBox
import Derived.Test.YtnkpboobfkjibadKSpanConv
import Derived.Test.YtnkpboobfkjibadRegFacts2
namespace Go.Proofs.Ytnkpboobfkjibad
open Go.RowKit

/-- What the operations make. -/
def snF (A g : Nat) (v1 v2 : Value) (hh : List Sp) (l : List Int) (z z1 : Int) : Nat → (Nat → Value) → (Nat → Nat × Nat) → World → Prop
  | 0, σ, _, _ => σ 0 = .pointer (some ⟨A, 0, none⟩)
  | 1, σ, _, _ => σ 1 = .int .i64 z
  | 2, σ, _, _ => σ 2 = .int .i64 z1
  | 3, σ, _, _ => σ 3 = .pointer (some ⟨A, 1, none⟩)
  | 4, σ, _, _ => σ 4 = v1
  | 5, σ, c, w => g < (c 5).1 ∧ SpOwn (c 5).1 (c 5).2 w (σ 5) hh ∧ ∃ a k q, σ 5 = .slice a k q
  | 6, σ, _, _ => σ 6 = .pointer (some ⟨A, 2, none⟩)
  | 7, σ, _, _ => σ 7 = v2
  | 8, σ, c, w => g < (c 8).1 ∧ KOwn (c 8).1 (c 8).2 w (σ 8) l ∧ ∃ a k q, σ 8 = .slice a k q
  | 9, σ, _, _ => σ 9 = .agg #[σ 2, σ 5, σ 8]
  | 10, σ, _, _ => σ 10 = .pointer (some ⟨A, 0, none⟩)
  | 11, σ, _, _ => σ 11 = .int .i64 z
  | 12, σ, _, w => BoxL w g [.int .i64 z1, σ 5, σ 8]
  | _, _, _, _ => True
theorem snF_keep {A g : Nat} {v1 v2 : Value} {hh : List Sp} {l : List Int} {z z1 : Int} : ∀ j ∈ [0, 1, 2, 3, 4, 5, 6, 7, 8, 9, 10, 11, 12], ∀ σ c w w', snF A g v1 v2 hh l z z1 j σ c w → Below w.heap.size w w' → snF A g v1 v2 hh l z z1 j σ c w' := by
  intro j hj σ c w w' h hb
  simp only [List.mem_cons, List.not_mem_nil, or_false] at hj; rcases hj with rfl | rfl | rfl | rfl | rfl | rfl | rfl | rfl | rfl | rfl | rfl | rfl | rfl
  · exact h
  · exact h
  · exact h
  · exact h
  · exact h
  · exact ⟨h.1, h.2.1.below hb, h.2.2⟩
  · exact h
  · exact h
  · exact ⟨h.1, h.2.1.below hb, h.2.2⟩
  · exact h
  · exact h
  · exact h
  · exact h.below hb h.lt
set_option linter.unusedSimpArgs false in
theorem snF_loc {A g : Nat} {v1 v2 : Value} {hh : List Sp} {l : List Int} {z z1 : Int} {j i : Nat} {σ : Nat → Value} {c : Nat → Nat × Nat} {w : World} {v : Value} {r : Nat × Nat} (hj : j ∈ [0, 1, 2, 3, 4, 5, 6, 7, 8, 9, 10, 11, 12]) (hne : i ≠ j) (hd : (j = 9 → i ≠ 2 ∧ i ≠ 5 ∧ i ≠ 8) ∧ (j = 12 → i ≠ 5 ∧ i ≠ 8)) (h : snF A g v1 v2 hh l z z1 j σ c w) : snF A g v1 v2 hh l z z1 j (upd σ i v) (upd c i r) w := by
  simp only [List.mem_cons, List.not_mem_nil, or_false] at hj; rcases hj with rfl | rfl | rfl | rfl | rfl | rfl | rfl | rfl | rfl | rfl | rfl | rfl | rfl
  · simp only [snF, upd_other _ _ (Ne.symm hne)] at h ⊢
    exact h
  · simp only [snF, upd_other _ _ (Ne.symm hne)] at h ⊢
    exact h
  · simp only [snF, upd_other _ _ (Ne.symm hne)] at h ⊢
    exact h
  · simp only [snF, upd_other _ _ (Ne.symm hne)] at h ⊢
    exact h
  · simp only [snF, upd_other _ _ (Ne.symm hne)] at h ⊢
    exact h
  · simp only [snF, upd_other _ _ (Ne.symm hne)] at h ⊢
    exact h
  · simp only [snF, upd_other _ _ (Ne.symm hne)] at h ⊢
    exact h
  · simp only [snF, upd_other _ _ (Ne.symm hne)] at h ⊢
    exact h
  · simp only [snF, upd_other _ _ (Ne.symm hne)] at h ⊢
    exact h
  · obtain ⟨d2, d5, d8⟩ := hd.1 rfl
    simp only [snF, upd_other _ _ (Ne.symm hne), upd_other _ _ (Ne.symm d2), upd_other _ _ (Ne.symm d5), upd_other _ _ (Ne.symm d8)] at h ⊢
    exact h
  · simp only [snF, upd_other _ _ (Ne.symm hne)] at h ⊢
    exact h
  · simp only [snF, upd_other _ _ (Ne.symm hne)] at h ⊢
    exact h
  · obtain ⟨d5, d8⟩ := hd.2 rfl
    simp only [snF, upd_other _ _ (Ne.symm hne), upd_other _ _ (Ne.symm d5), upd_other _ _ (Ne.symm d8)] at h ⊢
    exact h
theorem snF_keep2 {A g : Nat} {v1 v2 : Value} {hh : List Sp} {l : List Int} {z z1 : Int} : ∀ j ∈ [0, 1, 2, 3, 4, 5, 6, 7, 8, 9, 10, 11, 12], j ≠ 12 → ∀ σ c w w', snF A g v1 v2 hh l z z1 j σ c w → w.grownBy w' (some g) → snF A g v1 v2 hh l z z1 j σ c w' := by
  intro j hj hne σ c w w' h hb
  simp only [List.mem_cons, List.not_mem_nil, or_false] at hj; rcases hj with rfl | rfl | rfl | rfl | rfl | rfl | rfl | rfl | rfl | rfl | rfl | rfl | rfl
  · exact h
  · exact h
  · exact h
  · exact h
  · exact h
  · exact ⟨h.1, h.2.1.at (fun k h1 h2 h3 => grown_at2 hb k h3 (by have := h.1; omega)), h.2.2⟩
  · exact h
  · exact h
  · exact ⟨h.1, h.2.1.at (fun k h1 h2 h3 => grown_at2 hb k h3 (by have := h.1; omega)), h.2.2⟩
  · exact h
  · exact h
  · exact h
  · exact absurd rfl hne
set_option maxRecDepth 100000 in
set_option maxHeartbeats 8000000 in
theorem isendNext_any (v : Value) (D : SdD) (w : World) (hr : SdReads w v D) (X : SdD) (r : Int) (t : Bool) (hX : nextSd D = X) (hN : nextN D = r) (ht : nextB D = t) :
    Calls Try.prog 41 #[v] w fun e w' => ∃ u0, e = .returned (.tuple #[u0, .int .i64 r, .bool t]) ∧ SdOwn (Iv w.heap.size w'.heap.size) w' u0 X ∧ Below w.heap.size w w' := by
  have HR := hid hr
  have HX := hid hX
  have HN := hid hN
  have HT := hid ht
  obtain ⟨v1, v2, rfl, r1, r2⟩ := hr
  have R1 := hid r1
  have R2 := hid r2
  obtain ⟨a1, p1, rfl, _, _⟩ := r1
  obtain ⟨a2, p2, rfl, _, _⟩ := r2
  obtain ⟨z, hz⟩ : ∃ z, z = D.f0 := ⟨_, rfl⟩
  have HZ := hid hz
  rw [← hz] at HR ⊢
  obtain ⟨t1, e1⟩ : ∃ b, goodSd D = b := ⟨_, rfl⟩
  have E1 := hid e1
  obtain ⟨PA, BA, hsA⟩ := box_three (w := w) (.int .i64 z) (.slice a1 D.f1.length p1) (.slice a2 D.f2.length p2) 49
  obtain ⟨W0, hW0⟩ : ∃ W, W = w.alloc (.cells #[.int .i64 z, .slice a1 D.f1.length p1, .slice a2 D.f2.length p2] 49) := ⟨_, rfl⟩
  rw [← hW0] at PA BA hsA
  obtain ⟨PR, BR, hsR⟩ := box_three (w := W0) (.int .i64 0) (.slice none 0 0) (.slice none 0 0) 49
  obtain ⟨W1, hW1⟩ : ∃ W, W = W0.alloc (.cells #[.int .i64 0, .slice none 0 0, .slice none 0 0] 49) := ⟨_, rfl⟩
  rw [← hW1] at PR BR hsR
  rw [hsA] at PR hsR
  have PA := hid (PA.below BR PA.lt)
  have PR := hid PR
  have B := hid (BA.trans (BR.mono (by omega)))
  rw [hW0] at hW1
  have HW := hid hW1
  obtain ⟨q0, q1, q2⟩ := PA.out.three
  rw [HW.out] at q0 q1 q2
  clear hz BA BR hW0 hW1 hsA hX hN ht e1
  go_enter Try.func41, Try.ntmps41
  go_wp2_with fail
  rw [← HW.out]
  clear HW q0 q1 q2
  refine (igoodSd_eq _ D t1 E1.out _ (HR.out.below B.out)).mono ?_
  rintro e w1 ⟨rfl, b1⟩
  have hs1 := b1.size
  replace B := hid (B.out.trans (b1.mono B.out.size))
  replace PA := hid (PA.out.below b1 PA.out.lt)
  replace PR := hid (PR.out.below b1 PR.out.lt)
  clear b1
  have LEAF : Hid (t = false → X = ⟨0, [], []⟩ ∧ r = 0) := fun h => by
    have h2 := HT.out
    rw [h] at h2
    refine ⟨?_, ?_⟩
    · rw [← HX.out]; unfold nextSd; rw [h2]; rfl
    · rw [← HN.out]; unfold nextN; rw [h2]; rfl
  cases t1
  · have HV : Hid (t = false) := by show _ = _; rw [← HT.out]; unfold nextB; rw [E1.out]; rfl
    have HV2 := hid (LEAF.out HV.out)
    obtain ⟨⟨y0, f0⟩, ⟨y1, f1⟩, y2, f2⟩ := PR.out.form3
    have LF := sd_leaf PR.out B.out (by omega) (sdOwn_bare (Iv (w.heap.size + 2) (w.heap.size + 2)) w1 0) (by omega) (by omega) (by omega)
    have HO := hid LF.1
    have HB := hid LF.2.1
    obtain ⟨t0, t1, t2⟩ := LF.2.2
    clear LF
    go_wp2
    exact bodyPost_ret (v := .tuple #[.agg #[.int .i64 0, .slice none 0 0, .slice none 0 0], .int .i64 0, .bool false]) (by simp [results, Try.results41, go_sem, t0, t1, t2]) rfl ⟨_, by rw [HV.out, HV2.out.2], by rw [HV2.out.1]; exact HO.out, HB.out⟩
  have SM := goodSd_small E1.out
  by_cases h60 : D.f0 = 60
  · have HV : Hid (t = false) := by show _ = _; rw [← HT.out]; unfold nextB; rw [E1.out, decide_eq_false (by simpa using h60)]; rfl
    have HV2 := hid (LEAF.out HV.out)
    have hd : (z == 60) = true := by rw [HZ.out, beq_iff_eq]; exact h60
    obtain ⟨⟨y0, f0⟩, ⟨y1, f1⟩, y2, f2⟩ := PR.out.form3
    have LF := sd_leaf PR.out B.out (by omega) (sdOwn_bare (Iv (w.heap.size + 2) (w.heap.size + 2)) w1 0) (by omega) (by omega) (by omega)
    have HO := hid LF.1
    have HB := hid LF.2.1
    obtain ⟨t0, t1, t2⟩ := LF.2.2
    obtain ⟨q0, q1, q2⟩ := PA.out.three
    clear LF h60
    go_wp2
    exact bodyPost_ret (v := .tuple #[.agg #[.int .i64 0, .slice none 0 0, .slice none 0 0], .int .i64 0, .bool false]) (by simp [results, Try.results41, go_sem, t0, t1, t2]) rfl ⟨_, by rw [HV.out, HV2.out.2], by rw [HV2.out.1]; exact HO.out, HB.out⟩
  have hd : (z == 60) = false := by rw [HZ.out, beq_eq_false_iff_ne]; exact h60
  have HV : Hid (t = true) := by show _ = _; rw [← HT.out]; unfold nextB; rw [E1.out, decide_eq_true h60]; rfl
  have HV2 : Hid (X = ⟨z + 1, D.f1, D.f2⟩) := by show _ = _; rw [← HX.out]; unfold nextSd nextB; rw [E1.out, decide_eq_true h60, HZ.out]; rfl
  have HV3 : Hid (r = z) := by show _ = _; rw [← HN.out]; unfold nextN nextB; rw [E1.out, decide_eq_true h60, HZ.out]; rfl
  have hz60 : 0 ≤ z ∧ z ≤ 60 := by rw [HZ.out]; exact SM.1
  obtain ⟨q0, q1, q2⟩ := PA.out.three
  obtain ⟨z1, hz1⟩ : ∃ z1, z1 = z + 1 := ⟨_, rfl⟩
  have hwz : IntKind.i64.wrap (z + 1) = z1 := by rw [hz1, IntKind.wrap_i64]; omega
  rw [← hz1] at HV2
  obtain ⟨_, hl20, hl60⟩ := SM
  clear h60 LEAF hz1
  go_wp2_with fail
  refine wp_region_any (by kernel_rfl) ?_
  change wpAny _ _ _ _ _ _ _ (World.drew _)
  obtain ⟨W2, hW2⟩ : ∃ X, X = World.drew w1 := ⟨_, rfl⟩
  replace PA : Hid (BoxL W2 w.heap.size [.int .i64 z, .slice a1 D.f1.length p1, .slice a2 D.f2.length p2]) := by rw [hW2]; exact PA.out
  replace PR : Hid (BoxL W2 (w.heap.size + 1) [.int .i64 0, .slice none 0 0, .slice none 0 0]) := by rw [hW2]; exact PR.out
  replace B : Hid (Below w.heap.size w W2) := by rw [hW2]; exact B.out.drew
  have hs2 : w.heap.size + 2 ≤ W2.heap.size := by rw [hW2]; show _ ≤ w1.heap.size; omega
  rw [← hW2]
  clear hW2 q0 q1 q2
  refine wpAny_facts2' 2 (Array.replicate 15 false) #[true, true, true, true, true, true, true, true, true, true, true, true, true, false, false] [0, 1, 2, 3, 4, 5, 6, 7, 8, 9, 10, 11, 12] 12 (w.heap.size + 1) (fun σ => #[.agg #[.int .i64 z, .slice a1 D.f1.length p1, .slice a2 D.f2.length p2], .pointer (some ⟨w.heap.size, 0, none⟩), .pointer (some ⟨w.heap.size + 1, 0, none⟩), .int .i64 0, .bool false, .agg #[.int .i64 z, .slice a1 D.f1.length p1, .slice a2 D.f2.length p2], .bool true, .bool false, .bool false, .pointer (some ⟨w.heap.size, 0, none⟩), .int .i64 z, .bool false, .bool false, undef, σ 0, σ 1, σ 2, σ 3, σ 4, σ 5, σ 6, σ 7, σ 8, σ 9, σ 10, σ 11]) (snF w.heap.size (w.heap.size + 1) (.slice a1 D.f1.length p1) (.slice a2 D.f2.length p2) D.f1 D.f2 z z1) (fun _ => undef) rfl (by kernel_rfl) (by kernel_rfl) (by kernel_rfl) (by kernel_rfl) (by decide) rfl snF_keep snF_keep2 (fun j hj i hi σ c w v r hne hd h => snF_loc hj hne ⟨fun e => by subst e; exact ⟨(hd 2 (by decide)).symm, (hd 5 (by decide)).symm, (hd 8 (by decide)).symm⟩, fun e => by subst e; exact ⟨(hd 5 (by decide)).symm, (hd 8 (by decide)).symm⟩⟩ h) ?_ ?_ ?_
  · intro σ c wr' hb hf hin hdj
    have e0 : snF _ _ _ _ _ _ _ _ 0 σ c wr' := hf 0 (by decide)
    have e1 : snF _ _ _ _ _ _ _ _ 1 σ c wr' := hf 1 (by decide)
    have e2 : snF _ _ _ _ _ _ _ _ 2 σ c wr' := hf 2 (by decide)
    have e3 : snF _ _ _ _ _ _ _ _ 3 σ c wr' := hf 3 (by decide)
    have e4 : snF _ _ _ _ _ _ _ _ 4 σ c wr' := hf 4 (by decide)
    have e6 : snF _ _ _ _ _ _ _ _ 6 σ c wr' := hf 6 (by decide)
    have e7 : snF _ _ _ _ _ _ _ _ 7 σ c wr' := hf 7 (by decide)
    have e9 : snF _ _ _ _ _ _ _ _ 9 σ c wr' := hf 9 (by decide)
    have e10 : snF _ _ _ _ _ _ _ _ 10 σ c wr' := hf 10 (by decide)
    have e11 : snF _ _ _ _ _ _ _ _ 11 σ c wr' := hf 11 (by decide)
    obtain ⟨g5, k5, a5, m5, q5, e5⟩ : snF _ _ _ _ _ _ _ _ 5 σ c wr' := hf 5 (by decide)
    obtain ⟨g8, k8, a8, m8, q8, e8⟩ : snF _ _ _ _ _ _ _ _ 8 σ c wr' := hf 8 (by decide)
    have e12 : snF _ _ _ _ _ _ _ _ 12 σ c wr' := hf 12 (by decide)
    simp only [snF] at e0 e1 e2 e3 e4 e6 e7 e9 e10 e11 e12
    rw [e5, e8] at e12
    rw [e5] at k5
    rw [e8] at k8
    rw [e2, e5, e8] at e9
    have n5 := hin 5 (by decide)
    have n8 := hin 8 (by decide)
    have d58 := hdj 5 (by decide) 8 (by decide) (by decide)
    clear hf hin hdj
    try dsimp only
    rw [e0, e1, e2, e3, e4, e5, e6, e7, e8, e9, e10, e11]
    have HBB : Hid (Below w.heap.size w wr') := B.out.grown hb B.out.size (fun k e => by cases e; omega)
    have hs3 := hb.size
    have HO : Hid (SdOwn (Iv w.heap.size wr'.heap.size) wr' (.agg #[.int .i64 z1, .slice a5 m5 q5, .slice a8 m8 q8]) ⟨z1, D.f1, D.f2⟩) :=
      SdOwn.mk2 (D := ⟨z1, D.f1, D.f2⟩) k5 k8 n5.2.1 n8.2.1 (fun g h1 h2 => by unfold Iv; omega) (fun g h1 h2 => by unfold Iv; omega) d58
    obtain ⟨t0, t1, t2⟩ := e12.three
    clear hb k5 k8 n5 n8 d58 e0 e1 e2 e3 e4 e5 e6 e7 e8 e9 e10 e11 e12 g5 g8
    refine wpAny_ready (rs := [13]) (by kernel_rfl) (by simp) ?_
    refine AllReady.cons rfl (fun K hK => ?_) AllReady.nil
    go_simp
    refine hK _ _ ?_
    clear hK K
    refine wpAny_ready (rs := [14]) (by kernel_rfl) (by simp) ?_
    refine AllReady.cons rfl (fun K hK => ?_) AllReady.nil
    go_simp
    refine hK _ _ ?_
    clear hK K
    refine wpAny_done (by kernel_rfl) ?_ _
    go_wp2
    exact bodyPost_ret (v := .tuple #[.agg #[.int .i64 z1, .slice a5 m5 q5, .slice a8 m8 q8], .int .i64 z, .bool true]) (by simp [results, Try.results41, go_sem, t0, t1, t2]) rfl ⟨_, by rw [HV.out, HV3.out], by rw [HV2.out]; exact HO.out, HBB.out⟩
  · intro σ c wr' hb hd
    have f2 : snF _ _ _ _ _ _ _ _ 2 σ c wr' := hd 2 (by decide) (by decide)
    obtain ⟨_, k5, a5, m5, q5, f5⟩ : snF _ _ _ _ _ _ _ _ 5 σ c wr' := hd 5 (by decide) (by decide)
    obtain ⟨_, k8, a8, m8, q8, f8⟩ : snF _ _ _ _ _ _ _ _ 8 σ c wr' := hd 8 (by decide) (by decide)
    have f9 : snF _ _ _ _ _ _ _ _ 9 σ c wr' := hd 9 (by decide) (by decide)
    simp only [snF] at f2 f9
    rw [f2, f5, f8] at f9
    clear hd
    have PR2 := PR.out.below hb PR.out.lt
    obtain ⟨⟨y0, g0⟩, ⟨y1, g1⟩, y2, g2⟩ := PR2.form3
    refine StepG.of (a1 := ⟨#[.agg #[.int .i64 z, .slice a1 D.f1.length p1, .slice a2 D.f2.length p2], .pointer (some ⟨w.heap.size, 0, none⟩), .pointer (some ⟨w.heap.size + 1, 0, none⟩), .int .i64 0, .bool false, .agg #[.int .i64 z, .slice a1 D.f1.length p1, .slice a2 D.f2.length p2], .bool true, .bool false, .bool false, .pointer (some ⟨w.heap.size, 0, none⟩), .int .i64 z, .bool false, .bool false, undef, σ 0, σ 1, (.int .i64 z1), σ 3, σ 4, (.slice a5 m5 q5), σ 6, σ 7, (.slice a8 m8 q8), (.agg #[.int .i64 z1, .slice a5 m5 q5, .slice a8 m8 q8]), σ 10, σ 11], []⟩) (by simp only [f2, f5, f8, f9]) rfl (fun _ => rfl) (fun K hK => ?_)
    go_simp
    refine hK undef _ ?_ ?_
    · have o := three_only wr' (w.heap.size + 1) (.int .i64 z1) (.slice a5 m5 q5) (.slice a8 m8 q8)
      exact ⟨rfl, rfl, rfl, by rw [o.1]; exact Nat.le_refl _, fun i _ hne => o.2.1 i (by simpa using hne)⟩
    · show BoxL _ _ [.int .i64 z1, σ 5, σ 8]
      rw [f5, f8]
      exact three_put PR2 _ _ _
  · intro i hi hne σ c wr' hb hd
    simp only [List.mem_cons, List.not_mem_nil, or_false] at hi; rcases hi with rfl | rfl | rfl | rfl | rfl | rfl | rfl | rfl | rfl | rfl | rfl | rfl | rfl
    · skip
      clear hd
      refine StepF.of (a1 := ⟨#[.agg #[.int .i64 z, .slice a1 D.f1.length p1, .slice a2 D.f2.length p2], .pointer (some ⟨w.heap.size, 0, none⟩), .pointer (some ⟨w.heap.size + 1, 0, none⟩), .int .i64 0, .bool false, .agg #[.int .i64 z, .slice a1 D.f1.length p1, .slice a2 D.f2.length p2], .bool true, .bool false, .bool false, .pointer (some ⟨w.heap.size, 0, none⟩), .int .i64 z, .bool false, .bool false, undef, σ 0, σ 1, σ 2, σ 3, σ 4, σ 5, σ 6, σ 7, σ 8, σ 9, σ 10, σ 11], []⟩) rfl rfl (fun _ => rfl) (fun K hK => ?_)
      go_simp
      exact hK _ _ (Below.refl _ _) rfl
    · skip
      have f0 : snF _ _ _ _ _ _ _ _ 0 σ c wr' := hd 0 (by decide) (by decide)
      simp only [snF] at f0
      clear hd
      refine StepF.of (a1 := ⟨#[.agg #[.int .i64 z, .slice a1 D.f1.length p1, .slice a2 D.f2.length p2], .pointer (some ⟨w.heap.size, 0, none⟩), .pointer (some ⟨w.heap.size + 1, 0, none⟩), .int .i64 0, .bool false, .agg #[.int .i64 z, .slice a1 D.f1.length p1, .slice a2 D.f2.length p2], .bool true, .bool false, .bool false, .pointer (some ⟨w.heap.size, 0, none⟩), .int .i64 z, .bool false, .bool false, undef, (.pointer (some ⟨w.heap.size, 0, none⟩)), σ 1, σ 2, σ 3, σ 4, σ 5, σ 6, σ 7, σ 8, σ 9, σ 10, σ 11], []⟩) (by simp only [f0]) rfl (fun _ => rfl) (fun K hK => ?_)
      obtain ⟨c0, c1, c2⟩ := (PA.out.of_block (hb.block _ PA.out.lt (by simp))).three
      go_simp
      exact hK _ _ (Below.refl _ _) rfl
    · skip
      have f1 : snF _ _ _ _ _ _ _ _ 1 σ c wr' := hd 1 (by decide) (by decide)
      simp only [snF] at f1
      clear hd
      refine StepF.of (a1 := ⟨#[.agg #[.int .i64 z, .slice a1 D.f1.length p1, .slice a2 D.f2.length p2], .pointer (some ⟨w.heap.size, 0, none⟩), .pointer (some ⟨w.heap.size + 1, 0, none⟩), .int .i64 0, .bool false, .agg #[.int .i64 z, .slice a1 D.f1.length p1, .slice a2 D.f2.length p2], .bool true, .bool false, .bool false, .pointer (some ⟨w.heap.size, 0, none⟩), .int .i64 z, .bool false, .bool false, undef, σ 0, (.int .i64 z), σ 2, σ 3, σ 4, σ 5, σ 6, σ 7, σ 8, σ 9, σ 10, σ 11], []⟩) (by simp only [f1]) rfl (fun _ => rfl) (fun K hK => ?_)
      go_simp
      exact hK _ _ (Below.refl _ _) rfl
    · skip
      clear hd
      refine StepF.of (a1 := ⟨#[.agg #[.int .i64 z, .slice a1 D.f1.length p1, .slice a2 D.f2.length p2], .pointer (some ⟨w.heap.size, 0, none⟩), .pointer (some ⟨w.heap.size + 1, 0, none⟩), .int .i64 0, .bool false, .agg #[.int .i64 z, .slice a1 D.f1.length p1, .slice a2 D.f2.length p2], .bool true, .bool false, .bool false, .pointer (some ⟨w.heap.size, 0, none⟩), .int .i64 z, .bool false, .bool false, undef, σ 0, σ 1, σ 2, σ 3, σ 4, σ 5, σ 6, σ 7, σ 8, σ 9, σ 10, σ 11], []⟩) rfl rfl (fun _ => rfl) (fun K hK => ?_)
      go_simp
      exact hK _ _ (Below.refl _ _) rfl
    · skip
      have f3 : snF _ _ _ _ _ _ _ _ 3 σ c wr' := hd 3 (by decide) (by decide)
      simp only [snF] at f3
      clear hd
      refine StepF.of (a1 := ⟨#[.agg #[.int .i64 z, .slice a1 D.f1.length p1, .slice a2 D.f2.length p2], .pointer (some ⟨w.heap.size, 0, none⟩), .pointer (some ⟨w.heap.size + 1, 0, none⟩), .int .i64 0, .bool false, .agg #[.int .i64 z, .slice a1 D.f1.length p1, .slice a2 D.f2.length p2], .bool true, .bool false, .bool false, .pointer (some ⟨w.heap.size, 0, none⟩), .int .i64 z, .bool false, .bool false, undef, σ 0, σ 1, σ 2, (.pointer (some ⟨w.heap.size, 1, none⟩)), σ 4, σ 5, σ 6, σ 7, σ 8, σ 9, σ 10, σ 11], []⟩) (by simp only [f3]) rfl (fun _ => rfl) (fun K hK => ?_)
      obtain ⟨c0, c1, c2⟩ := (PA.out.of_block (hb.block _ PA.out.lt (by simp))).three
      go_simp
      exact hK _ _ (Below.refl _ _) rfl
    · skip
      have f4 : snF _ _ _ _ _ _ _ _ 4 σ c wr' := hd 4 (by decide) (by decide)
      simp only [snF] at f4
      clear hd
      refine StepF.of (a1 := ⟨#[.agg #[.int .i64 z, .slice a1 D.f1.length p1, .slice a2 D.f2.length p2], .pointer (some ⟨w.heap.size, 0, none⟩), .pointer (some ⟨w.heap.size + 1, 0, none⟩), .int .i64 0, .bool false, .agg #[.int .i64 z, .slice a1 D.f1.length p1, .slice a2 D.f2.length p2], .bool true, .bool false, .bool false, .pointer (some ⟨w.heap.size, 0, none⟩), .int .i64 z, .bool false, .bool false, undef, σ 0, σ 1, σ 2, σ 3, (.slice a1 D.f1.length p1), σ 5, σ 6, σ 7, σ 8, σ 9, σ 10, σ 11], []⟩) (by simp only [f4]) rfl (fun _ => rfl) (fun K hK => ?_)
      go_simp
      refine (iclone_sp _ D.f1 _ (R1.out.below (B.out.grown hb B.out.size (fun k e => by cases e; omega))).s (by omega)).mono ?_
      rintro e w2 ⟨u, rfl, ho, b⟩
      exact hK u w2 b ⟨by show w.heap.size + 1 < wr'.heap.size; have := hb.size; omega, ho, ho.sform⟩
    · skip
      clear hd
      refine StepF.of (a1 := ⟨#[.agg #[.int .i64 z, .slice a1 D.f1.length p1, .slice a2 D.f2.length p2], .pointer (some ⟨w.heap.size, 0, none⟩), .pointer (some ⟨w.heap.size + 1, 0, none⟩), .int .i64 0, .bool false, .agg #[.int .i64 z, .slice a1 D.f1.length p1, .slice a2 D.f2.length p2], .bool true, .bool false, .bool false, .pointer (some ⟨w.heap.size, 0, none⟩), .int .i64 z, .bool false, .bool false, undef, σ 0, σ 1, σ 2, σ 3, σ 4, σ 5, σ 6, σ 7, σ 8, σ 9, σ 10, σ 11], []⟩) rfl rfl (fun _ => rfl) (fun K hK => ?_)
      go_simp
      exact hK _ _ (Below.refl _ _) rfl
    · skip
      have f6 : snF _ _ _ _ _ _ _ _ 6 σ c wr' := hd 6 (by decide) (by decide)
      simp only [snF] at f6
      clear hd
      refine StepF.of (a1 := ⟨#[.agg #[.int .i64 z, .slice a1 D.f1.length p1, .slice a2 D.f2.length p2], .pointer (some ⟨w.heap.size, 0, none⟩), .pointer (some ⟨w.heap.size + 1, 0, none⟩), .int .i64 0, .bool false, .agg #[.int .i64 z, .slice a1 D.f1.length p1, .slice a2 D.f2.length p2], .bool true, .bool false, .bool false, .pointer (some ⟨w.heap.size, 0, none⟩), .int .i64 z, .bool false, .bool false, undef, σ 0, σ 1, σ 2, σ 3, σ 4, σ 5, (.pointer (some ⟨w.heap.size, 2, none⟩)), σ 7, σ 8, σ 9, σ 10, σ 11], []⟩) (by simp only [f6]) rfl (fun _ => rfl) (fun K hK => ?_)
      obtain ⟨c0, c1, c2⟩ := (PA.out.of_block (hb.block _ PA.out.lt (by simp))).three
      go_simp
      exact hK _ _ (Below.refl _ _) rfl
    · skip
      have f7 : snF _ _ _ _ _ _ _ _ 7 σ c wr' := hd 7 (by decide) (by decide)
      simp only [snF] at f7
      clear hd
      refine StepF.of (a1 := ⟨#[.agg #[.int .i64 z, .slice a1 D.f1.length p1, .slice a2 D.f2.length p2], .pointer (some ⟨w.heap.size, 0, none⟩), .pointer (some ⟨w.heap.size + 1, 0, none⟩), .int .i64 0, .bool false, .agg #[.int .i64 z, .slice a1 D.f1.length p1, .slice a2 D.f2.length p2], .bool true, .bool false, .bool false, .pointer (some ⟨w.heap.size, 0, none⟩), .int .i64 z, .bool false, .bool false, undef, σ 0, σ 1, σ 2, σ 3, σ 4, σ 5, σ 6, (.slice a2 D.f2.length p2), σ 8, σ 9, σ 10, σ 11], []⟩) (by simp only [f7]) rfl (fun _ => rfl) (fun K hK => ?_)
      go_simp
      refine (kclone_any _ D.f2 _ (R2.out.below (B.out.grown hb B.out.size (fun k e => by cases e; omega))) (by omega)).mono ?_
      rintro e w2 ⟨u, rfl, ho, _, b⟩
      exact hK u w2 b ⟨by show w.heap.size + 1 < wr'.heap.size; have := hb.size; omega, ho, ho.sform⟩
    · skip
      have f2 : snF _ _ _ _ _ _ _ _ 2 σ c wr' := hd 2 (by decide) (by decide)
      simp only [snF] at f2
      have f5 : snF _ _ _ _ _ _ _ _ 5 σ c wr' := hd 5 (by decide) (by decide)
      obtain ⟨_, k5, a5, m5, q5, f5⟩ := f5
      have f8 : snF _ _ _ _ _ _ _ _ 8 σ c wr' := hd 8 (by decide) (by decide)
      obtain ⟨_, k8, a8, m8, q8, f8⟩ := f8
      clear hd
      refine StepF.of (a1 := ⟨#[.agg #[.int .i64 z, .slice a1 D.f1.length p1, .slice a2 D.f2.length p2], .pointer (some ⟨w.heap.size, 0, none⟩), .pointer (some ⟨w.heap.size + 1, 0, none⟩), .int .i64 0, .bool false, .agg #[.int .i64 z, .slice a1 D.f1.length p1, .slice a2 D.f2.length p2], .bool true, .bool false, .bool false, .pointer (some ⟨w.heap.size, 0, none⟩), .int .i64 z, .bool false, .bool false, undef, σ 0, σ 1, (.int .i64 z1), σ 3, σ 4, (.slice a5 m5 q5), σ 6, σ 7, (.slice a8 m8 q8), σ 9, σ 10, σ 11], []⟩) (by simp only [f2, f5, f8]) rfl (fun _ => rfl) (fun K hK => ?_)
      go_simp
      exact hK _ _ (Below.refl _ _) (by show _ = Value.agg #[σ 2, σ 5, σ 8]; rw [f2, f5, f8]; rfl)
    · skip
      clear hd
      refine StepF.of (a1 := ⟨#[.agg #[.int .i64 z, .slice a1 D.f1.length p1, .slice a2 D.f2.length p2], .pointer (some ⟨w.heap.size, 0, none⟩), .pointer (some ⟨w.heap.size + 1, 0, none⟩), .int .i64 0, .bool false, .agg #[.int .i64 z, .slice a1 D.f1.length p1, .slice a2 D.f2.length p2], .bool true, .bool false, .bool false, .pointer (some ⟨w.heap.size, 0, none⟩), .int .i64 z, .bool false, .bool false, undef, σ 0, σ 1, σ 2, σ 3, σ 4, σ 5, σ 6, σ 7, σ 8, σ 9, σ 10, σ 11], []⟩) rfl rfl (fun _ => rfl) (fun K hK => ?_)
      go_simp
      exact hK _ _ (Below.refl _ _) rfl
    · skip
      have f10 : snF _ _ _ _ _ _ _ _ 10 σ c wr' := hd 10 (by decide) (by decide)
      simp only [snF] at f10
      clear hd
      refine StepF.of (a1 := ⟨#[.agg #[.int .i64 z, .slice a1 D.f1.length p1, .slice a2 D.f2.length p2], .pointer (some ⟨w.heap.size, 0, none⟩), .pointer (some ⟨w.heap.size + 1, 0, none⟩), .int .i64 0, .bool false, .agg #[.int .i64 z, .slice a1 D.f1.length p1, .slice a2 D.f2.length p2], .bool true, .bool false, .bool false, .pointer (some ⟨w.heap.size, 0, none⟩), .int .i64 z, .bool false, .bool false, undef, σ 0, σ 1, σ 2, σ 3, σ 4, σ 5, σ 6, σ 7, σ 8, σ 9, (.pointer (some ⟨w.heap.size, 0, none⟩)), σ 11], []⟩) (by simp only [f10]) rfl (fun _ => rfl) (fun K hK => ?_)
      obtain ⟨c0, c1, c2⟩ := (PA.out.of_block (hb.block _ PA.out.lt (by simp))).three
      go_simp
      exact hK _ _ (Below.refl _ _) rfl
    · exact absurd rfl hne
end Go.Proofs.Ytnkpboobfkjibad
