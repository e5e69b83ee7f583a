/-
  spec.l11Own: a sender copied into memory of its own. Nothing old is written.
-/
import Derived.Test.YtnkpboobfkjibadSdBox
import Derived.Test.YtnkpboobfkjibadBoxL
import Derived.Test.YtnkpboobfkjibadStepApp
import Derived.Test.YtnkpboobfkjibadRegFacts
namespace Go.Proofs.Ytnkpboobfkjibad
open Go.RowKit

/-- What the operations make. -/
def sonF (A : Nat) (v1 v2 : Value) (z : Int) (xs : List Sp) (ys : List Int) : Nat → (Nat → Value) → (Nat → Nat × Nat) → World → Prop
  | 0, σ, _, _ => σ 0 = .pointer (some ⟨A, 0, none⟩)
  | 1, σ, _, _ => σ 1 = .int .i64 z
  | 2, σ, _, _ => ∃ b, σ 2 = .slice (some ⟨b, 0, none⟩) 0 0
  | 3, σ, _, _ => σ 3 = .pointer (some ⟨A, 1, none⟩)
  | 4, σ, _, _ => σ 4 = v1
  | 5, σ, c, w => SpOwn (c 5).1 (c 5).2 w (σ 5) xs ∧ ∃ a n k, σ 5 = .slice a n k
  | 6, σ, _, _ => ∃ b, σ 6 = .slice (some ⟨b, 0, none⟩) 0 0
  | 7, σ, _, _ => σ 7 = .pointer (some ⟨A, 2, none⟩)
  | 8, σ, _, _ => σ 8 = v2
  | 9, σ, c, w => (KOwn (c 9).1 (c 9).2 w (σ 9) ys ∧ KApp (c 9).1 (c 9).2 w (σ 9) ys) ∧ ∃ a n k, σ 9 = .slice a n k
  | 10, σ, _, _ => σ 10 = .agg #[σ 1, σ 5, σ 9]
  | _, _, _, _ => True
theorem sonF_keep {A : Nat} {v1 v2 : Value} {z : Int} {xs : List Sp} {ys : List Int} : ∀ j ∈ [0, 1, 2, 3, 4, 5, 6, 7, 8, 9, 10], ∀ σ c w w', sonF A v1 v2 z xs ys j σ c w → Below w.heap.size w w' → sonF A v1 v2 z xs ys j σ c w' := by
  intro j hj σ c w w' h hb
  simp only [List.mem_cons, List.not_mem_nil, or_false] at hj; rcases hj with rfl | rfl | rfl | rfl | rfl | rfl | rfl | rfl | rfl | rfl | rfl
  · exact h
  · exact h
  · exact h
  · exact h
  · exact h
  · exact ⟨h.1.below hb, h.2⟩
  · exact h
  · exact h
  · exact h
  · exact ⟨⟨h.1.1.below hb, h.1.2.below hb⟩, h.2⟩
  · exact h
theorem sonF_loc {A : Nat} {v1 v2 : Value} {z : Int} {xs : List Sp} {ys : List Int} {j i : Nat} {σ : Nat → Value} {c : Nat → Nat × Nat} {w : World} {v : Value} {r : Nat × Nat} (hj : j ∈ [0, 1, 2, 3, 4, 5, 6, 7, 8, 9, 10]) (hne : i ≠ j) (hd : (j = 10 → i ≠ 1 ∧ i ≠ 5 ∧ i ≠ 9)) (h : sonF A v1 v2 z xs ys j σ c w) : sonF A v1 v2 z xs ys j (upd σ i v) (upd c i r) w := by
  simp only [List.mem_cons, List.not_mem_nil, or_false] at hj; rcases hj with rfl | rfl | rfl | rfl | rfl | rfl | rfl | rfl | rfl | rfl | rfl
  · simp only [sonF, upd_other _ _ (Ne.symm hne)] at h ⊢
    exact h
  · simp only [sonF, upd_other _ _ (Ne.symm hne)] at h ⊢
    exact h
  · simp only [sonF, upd_other _ _ (Ne.symm hne)] at h ⊢
    exact h
  · simp only [sonF, upd_other _ _ (Ne.symm hne)] at h ⊢
    exact h
  · simp only [sonF, upd_other _ _ (Ne.symm hne)] at h ⊢
    exact h
  · simp only [sonF, upd_other _ _ (Ne.symm hne)] at h ⊢
    exact h
  · simp only [sonF, upd_other _ _ (Ne.symm hne)] at h ⊢
    exact h
  · simp only [sonF, upd_other _ _ (Ne.symm hne)] at h ⊢
    exact h
  · simp only [sonF, upd_other _ _ (Ne.symm hne)] at h ⊢
    exact h
  · simp only [sonF, upd_other _ _ (Ne.symm hne)] at h ⊢
    exact h
  · obtain ⟨d1, d5, d9⟩ := hd rfl
    simp only [sonF, upd_other _ _ (Ne.symm hne), upd_other _ _ (Ne.symm d1), upd_other _ _ (Ne.symm d5), upd_other _ _ (Ne.symm d9)] at h ⊢
    exact h
set_option maxRecDepth 100000 in
set_option maxHeartbeats 16000000 in
theorem sown11_app (v : Value) (D : SdD) (w : World) (hr : SdReads w v D) (hl1 : D.f1.length ≤ 1000) (hl2 : D.f2.length ≤ 1000) :
    Calls Try.prog 127 #[v] w fun e w' => ∃ u0, e = .returned u0 ∧ SdOwnA (Iv w.heap.size w'.heap.size) w' u0 D ∧ Below w.heap.size w w' := by
  obtain ⟨v1, v2, rfl, r1, r2⟩ := hr
  have HR1 := hid r1
  have HR2 := hid r2
  obtain ⟨a1, p1, rfl, _, _⟩ := r1
  obtain ⟨a2, p2, rfl, _, _⟩ := r2
  obtain ⟨z, hz⟩ : ∃ z, z = D.f0 := ⟨_, rfl⟩
  have HZ := hid hz
  rw [← hz]
  obtain ⟨PA, BA, hsA⟩ := box_three (w := w) (.int .i64 z) (.slice a1 D.f1.length p1) (.slice a2 D.f2.length p2) 49
  obtain ⟨W0, hW0⟩ : ∃ W, W = w.alloc (.cells #[.int .i64 z, .slice a1 D.f1.length p1, .slice a2 D.f2.length p2] 49) := ⟨_, rfl⟩
  rw [← hW0] at PA BA hsA
  obtain ⟨PR, BR, hsR⟩ := box_three (w := W0) (.int .i64 0) (.slice none 0 0) (.slice none 0 0) 49
  obtain ⟨W1, hW1⟩ : ∃ W, W = W0.alloc (.cells #[.int .i64 0, .slice none 0 0, .slice none 0 0] 49) := ⟨_, rfl⟩
  rw [← hW1] at PR BR hsR
  rw [hsA] at PR hsR
  have PA := hid (PA.below BR PA.lt)
  have PR := hid PR
  have B := hid (BA.trans (BR.mono (by omega)))
  rw [hW0] at hW1
  have HW := hid hW1
  clear hz BA BR hW0 hW1 hsA
  go_enter Try.func127, Try.ntmps127
  go_wp2_with fail
  rw [← HW.out]
  clear HW
  refine wp_region_any (by kernel_rfl) ?_
  change wpAny _ _ _ _ _ _ _ (World.drew _)
  obtain ⟨W2, hW2⟩ : ∃ X, X = World.drew W1 := ⟨_, rfl⟩
  replace PA : Hid (BoxL W2 w.heap.size [.int .i64 z, .slice a1 D.f1.length p1, .slice a2 D.f2.length p2]) := by rw [hW2]; exact PA.out
  replace PR : Hid (BoxL W2 (w.heap.size + 1) [.int .i64 0, .slice none 0 0, .slice none 0 0]) := by rw [hW2]; exact PR.out
  replace B : Hid (Below w.heap.size w W2) := by rw [hW2]; exact B.out.drew
  have hs2 : W2.heap.size = w.heap.size + 2 := by rw [hW2]; exact hsR
  replace HR1 := hid (HR1.out.below B.out)
  replace HR2 := hid (HR2.out.below B.out)
  rw [← hW2]
  clear hW2 hsR
  refine wpAny_facts' 1 (Array.replicate 12 false) #[true, true, true, true, true, true, true, true, true, true, true, false] [0, 1, 2, 3, 4, 5, 6, 7, 8, 9, 10] (fun σ => #[.agg #[.int .i64 z, .slice a1 D.f1.length p1, .slice a2 D.f2.length p2], .pointer (some ⟨w.heap.size, 0, none⟩), .pointer (some ⟨w.heap.size + 1, 0, none⟩), σ 0, σ 1, σ 2, σ 3, σ 4, σ 5, σ 6, σ 7, σ 8, σ 9, σ 10]) (sonF w.heap.size (.slice a1 D.f1.length p1) (.slice a2 D.f2.length p2) z D.f1 D.f2) (fun _ => undef) rfl (by kernel_rfl) (by kernel_rfl) (by kernel_rfl) (by kernel_rfl) (by decide) sonF_keep (fun j hj i hi σ c w v r hne hd h => sonF_loc hj hne (fun e => by subst e; exact ⟨(hd 1 (by decide)).symm, (hd 5 (by decide)).symm, (hd 9 (by decide)).symm⟩) h) ?_ ?_
  · intro σ c wr' hb hf hin hdj
    have e0 : sonF _ _ _ _ _ _ 0 σ c wr' := hf 0 (by decide)
    have e1 : sonF _ _ _ _ _ _ 1 σ c wr' := hf 1 (by decide)
    have e3 : sonF _ _ _ _ _ _ 3 σ c wr' := hf 3 (by decide)
    have e4 : sonF _ _ _ _ _ _ 4 σ c wr' := hf 4 (by decide)
    have e7 : sonF _ _ _ _ _ _ 7 σ c wr' := hf 7 (by decide)
    have e8 : sonF _ _ _ _ _ _ 8 σ c wr' := hf 8 (by decide)
    have e10 : sonF _ _ _ _ _ _ 10 σ c wr' := hf 10 (by decide)
    obtain ⟨bb2, e2⟩ : sonF _ _ _ _ _ _ 2 σ c wr' := hf 2 (by decide)
    obtain ⟨bb6, e6⟩ : sonF _ _ _ _ _ _ 6 σ c wr' := hf 6 (by decide)
    obtain ⟨k5, a5, m5, q5, e5⟩ : sonF _ _ _ _ _ _ 5 σ c wr' := hf 5 (by decide)
    obtain ⟨⟨k9, ka9⟩, a9, m9, q9, e9⟩ : sonF _ _ _ _ _ _ 9 σ c wr' := hf 9 (by decide)
    simp only [sonF] at e0 e1 e3 e4 e7 e8 e10
    rw [e5] at k5 e10
    rw [e9] at k9 ka9 e10
    rw [e1] at e10
    have n5 := hin 5 (by decide)
    have n9 := hin 9 (by decide)
    have d59 := hdj 5 (by decide) 9 (by decide) (by decide)
    clear hf hin hdj
    try dsimp only
    rw [e0, e1, e2, e3, e4, e5, e6, e7, e8, e9, e10]
    replace PR := hid (PR.out.below hb PR.out.lt)
    replace B := hid (B.out.trans (hb.mono B.out.size))
    have hs3 : W2.heap.size ≤ wr'.heap.size := hb.size
    have O : SdOwnA (Iv (w.heap.size + 2) wr'.heap.size) wr' (.agg #[.int .i64 z, .slice a5 m5 q5, .slice a9 m9 q9]) D := by
      have hzz := HZ.out
      rw [hzz]
      exact SdOwnA.mk2 k5 k9 ka9 n5.2.1 n9.2.1 (fun g h1 h2 => by show _ ∧ _; omega) (fun g h1 h2 => by show _ ∧ _; omega) d59
    obtain ⟨⟨y0, f0⟩, ⟨y1, f1⟩, y2, f2⟩ := PR.out.form3
    have LF := sd_leafA PR.out B.out (by omega) O (by omega) (Nat.le_refl _) (by omega)
    have HO := hid LF.1
    have HB := hid LF.2.1
    obtain ⟨t0, t1, t2⟩ := LF.2.2
    clear LF O hb k5 k9 ka9 n5 n9 d59 e0 e1 e2 e3 e4 e5 e6 e7 e8 e9 e10 HR1 HR2
    refine wpAny_ready (rs := [11]) (by kernel_rfl) (by simp) ?_
    refine AllReady.cons rfl (fun K hK => ?_) AllReady.nil
    go_simp
    refine hK _ _ ?_
    clear hK K
    refine wpAny_done (by kernel_rfl) ?_ _
    go_wp2
    exact bodyPost_ret (v := .agg #[.int .i64 z, .slice a5 m5 q5, .slice a9 m9 q9]) (by simp [results, Try.results127, go_sem, t0, t1, t2]) rfl ⟨_, rfl, HO.out, HB.out⟩
  · intro i hi σ c wr' hb hd
    simp only [List.mem_cons, List.not_mem_nil, or_false] at hi; rcases hi with rfl | rfl | rfl | rfl | rfl | rfl | rfl | rfl | rfl | rfl | rfl
    · skip
      clear hd
      refine StepF.of (a1 := ⟨#[.agg #[.int .i64 z, .slice a1 D.f1.length p1, .slice a2 D.f2.length p2], .pointer (some ⟨w.heap.size, 0, none⟩), .pointer (some ⟨w.heap.size + 1, 0, none⟩), σ 0, σ 1, σ 2, σ 3, σ 4, σ 5, σ 6, σ 7, σ 8, σ 9, σ 10], []⟩) rfl rfl (fun _ => rfl) (fun K hK => ?_)
      go_simp
      exact hK _ _ (Below.refl _ _) rfl
    · skip
      have f0 : sonF _ _ _ _ _ _ 0 σ c wr' := hd 0 (by decide) (by decide)
      simp only [sonF] at f0
      clear hd
      refine StepF.of (a1 := ⟨#[.agg #[.int .i64 z, .slice a1 D.f1.length p1, .slice a2 D.f2.length p2], .pointer (some ⟨w.heap.size, 0, none⟩), .pointer (some ⟨w.heap.size + 1, 0, none⟩), (.pointer (some ⟨w.heap.size, 0, none⟩)), σ 1, σ 2, σ 3, σ 4, σ 5, σ 6, σ 7, σ 8, σ 9, σ 10], []⟩) (by simp only [f0]) rfl (fun _ => rfl) (fun K hK => ?_)
      obtain ⟨c0, c1, c2⟩ := (PA.out.below hb PA.out.lt).three
      go_simp
      exact hK _ _ (Below.refl _ _) rfl
    · skip
      clear hd
      refine StepF.of (a1 := ⟨#[.agg #[.int .i64 z, .slice a1 D.f1.length p1, .slice a2 D.f2.length p2], .pointer (some ⟨w.heap.size, 0, none⟩), .pointer (some ⟨w.heap.size + 1, 0, none⟩), σ 0, σ 1, σ 2, σ 3, σ 4, σ 5, σ 6, σ 7, σ 8, σ 9, σ 10], []⟩) rfl rfl (fun _ => rfl) (fun K hK => ?_)
      go_simp
      exact hK _ _ ((Below.refl _ _).alloc (Nat.le_refl _) _) ⟨_, rfl⟩
    · skip
      clear hd
      refine StepF.of (a1 := ⟨#[.agg #[.int .i64 z, .slice a1 D.f1.length p1, .slice a2 D.f2.length p2], .pointer (some ⟨w.heap.size, 0, none⟩), .pointer (some ⟨w.heap.size + 1, 0, none⟩), σ 0, σ 1, σ 2, σ 3, σ 4, σ 5, σ 6, σ 7, σ 8, σ 9, σ 10], []⟩) rfl rfl (fun _ => rfl) (fun K hK => ?_)
      go_simp
      exact hK _ _ (Below.refl _ _) rfl
    · skip
      have f3 : sonF _ _ _ _ _ _ 3 σ c wr' := hd 3 (by decide) (by decide)
      simp only [sonF] at f3
      clear hd
      refine StepF.of (a1 := ⟨#[.agg #[.int .i64 z, .slice a1 D.f1.length p1, .slice a2 D.f2.length p2], .pointer (some ⟨w.heap.size, 0, none⟩), .pointer (some ⟨w.heap.size + 1, 0, none⟩), σ 0, σ 1, σ 2, (.pointer (some ⟨w.heap.size, 1, none⟩)), σ 4, σ 5, σ 6, σ 7, σ 8, σ 9, σ 10], []⟩) (by simp only [f3]) rfl (fun _ => rfl) (fun K hK => ?_)
      obtain ⟨c0, c1, c2⟩ := (PA.out.below hb PA.out.lt).three
      go_simp
      exact hK _ _ (Below.refl _ _) rfl
    · skip
      have f2 : sonF _ _ _ _ _ _ 2 σ c wr' := hd 2 (by decide) (by decide)
      obtain ⟨bb2, f2⟩ := f2
      have f4 : sonF _ _ _ _ _ _ 4 σ c wr' := hd 4 (by decide) (by decide)
      simp only [sonF] at f4
      clear hd
      refine StepF.of (a1 := ⟨#[.agg #[.int .i64 z, .slice a1 D.f1.length p1, .slice a2 D.f2.length p2], .pointer (some ⟨w.heap.size, 0, none⟩), .pointer (some ⟨w.heap.size + 1, 0, none⟩), σ 0, σ 1, (.slice (some ⟨bb2, 0, none⟩) 0 0), σ 3, (.slice a1 D.f1.length p1), σ 5, σ 6, σ 7, σ 8, σ 9, σ 10], []⟩) (by simp only [f2, f4]) rfl (fun _ => rfl) (fun K hK => ?_)
      refine step_clone_sp (by rfl) _ _ (by rfl) bb2 (by rfl) _ D.f1 (by rfl) (HR1.out.below hb) hl1 ?_
      intro u2 w2 k2 b
      exact hK u2 w2 b ⟨k2, k2.sform⟩
    · skip
      clear hd
      refine StepF.of (a1 := ⟨#[.agg #[.int .i64 z, .slice a1 D.f1.length p1, .slice a2 D.f2.length p2], .pointer (some ⟨w.heap.size, 0, none⟩), .pointer (some ⟨w.heap.size + 1, 0, none⟩), σ 0, σ 1, σ 2, σ 3, σ 4, σ 5, σ 6, σ 7, σ 8, σ 9, σ 10], []⟩) rfl rfl (fun _ => rfl) (fun K hK => ?_)
      go_simp
      exact hK _ _ ((Below.refl _ _).alloc (Nat.le_refl _) _) ⟨_, rfl⟩
    · skip
      clear hd
      refine StepF.of (a1 := ⟨#[.agg #[.int .i64 z, .slice a1 D.f1.length p1, .slice a2 D.f2.length p2], .pointer (some ⟨w.heap.size, 0, none⟩), .pointer (some ⟨w.heap.size + 1, 0, none⟩), σ 0, σ 1, σ 2, σ 3, σ 4, σ 5, σ 6, σ 7, σ 8, σ 9, σ 10], []⟩) rfl rfl (fun _ => rfl) (fun K hK => ?_)
      go_simp
      exact hK _ _ (Below.refl _ _) rfl
    · skip
      have f7 : sonF _ _ _ _ _ _ 7 σ c wr' := hd 7 (by decide) (by decide)
      simp only [sonF] at f7
      clear hd
      refine StepF.of (a1 := ⟨#[.agg #[.int .i64 z, .slice a1 D.f1.length p1, .slice a2 D.f2.length p2], .pointer (some ⟨w.heap.size, 0, none⟩), .pointer (some ⟨w.heap.size + 1, 0, none⟩), σ 0, σ 1, σ 2, σ 3, σ 4, σ 5, σ 6, (.pointer (some ⟨w.heap.size, 2, none⟩)), σ 8, σ 9, σ 10], []⟩) (by simp only [f7]) rfl (fun _ => rfl) (fun K hK => ?_)
      obtain ⟨c0, c1, c2⟩ := (PA.out.below hb PA.out.lt).three
      go_simp
      exact hK _ _ (Below.refl _ _) rfl
    · skip
      have f6 : sonF _ _ _ _ _ _ 6 σ c wr' := hd 6 (by decide) (by decide)
      obtain ⟨bb6, f6⟩ := f6
      have f8 : sonF _ _ _ _ _ _ 8 σ c wr' := hd 8 (by decide) (by decide)
      simp only [sonF] at f8
      clear hd
      refine StepF.of (a1 := ⟨#[.agg #[.int .i64 z, .slice a1 D.f1.length p1, .slice a2 D.f2.length p2], .pointer (some ⟨w.heap.size, 0, none⟩), .pointer (some ⟨w.heap.size + 1, 0, none⟩), σ 0, σ 1, σ 2, σ 3, σ 4, σ 5, (.slice (some ⟨bb6, 0, none⟩) 0 0), σ 7, (.slice a2 D.f2.length p2), σ 9, σ 10], []⟩) (by simp only [f6, f8]) rfl (fun _ => rfl) (fun K hK => ?_)
      refine step_clone_lit (by rfl) _ _ (by rfl) bb6 (by rfl) _ D.f2 (by rfl) (HR2.out.below hb) hl2 ?_
      intro u2 w2 k2 ka b
      exact hK u2 w2 b ⟨⟨k2, ka⟩, k2.sform⟩
    · skip
      have f1 : sonF _ _ _ _ _ _ 1 σ c wr' := hd 1 (by decide) (by decide)
      simp only [sonF] at f1
      have f5 : sonF _ _ _ _ _ _ 5 σ c wr' := hd 5 (by decide) (by decide)
      obtain ⟨_, a5, m5, q5, f5⟩ := f5
      have f9 : sonF _ _ _ _ _ _ 9 σ c wr' := hd 9 (by decide) (by decide)
      obtain ⟨_, a9, m9, q9, f9⟩ := f9
      clear hd
      refine StepF.of (a1 := ⟨#[.agg #[.int .i64 z, .slice a1 D.f1.length p1, .slice a2 D.f2.length p2], .pointer (some ⟨w.heap.size, 0, none⟩), .pointer (some ⟨w.heap.size + 1, 0, none⟩), σ 0, (.int .i64 z), σ 2, σ 3, σ 4, (.slice a5 m5 q5), σ 6, σ 7, σ 8, (.slice a9 m9 q9), σ 10], []⟩) (by simp only [f1, f5, f9]) rfl (fun _ => rfl) (fun K hK => ?_)
      go_simp
      exact hK _ _ (Below.refl _ _) (by show _ = Value.agg #[σ 1, σ 5, σ 9]; rw [f1, f5, f9]; rfl)
theorem sown11_any (v : Value) (D : SdD) (w : World) (hr : SdReads w v D) (hl1 : D.f1.length ≤ 1000) (hl2 : D.f2.length ≤ 1000) :
    Calls Try.prog 127 #[v] w fun e w' => ∃ u0, e = .returned u0 ∧ SdOwn (Iv w.heap.size w'.heap.size) w' u0 D ∧ Below w.heap.size w w' :=
  (sown11_app v D w hr hl1 hl2).mono fun _ _ ⟨u0, e, o, b⟩ => ⟨u0, e, o.own, b⟩
end Go.Proofs.Ytnkpboobfkjibad
