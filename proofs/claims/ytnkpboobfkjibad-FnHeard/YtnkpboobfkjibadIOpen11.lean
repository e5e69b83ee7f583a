/-
  impl.OpenIn: letters neither heard of nor lost, in memory of their own. Nothing old is written.
-/
import Derived.Test.YtnkpboobfkjibadIGoodSd
import Derived.Test.YtnkpboobfkjibadIWithout
import Derived.Test.YtnkpboobfkjibadKOne
import Derived.Test.YtnkpboobfkjibadSdBox
import Derived.Test.YtnkpboobfkjibadKOwnS
import Derived.Test.YtnkpboobfkjibadRegFacts
import Derived.Test.YtnkpboobfkjibadSmallSd
namespace Go.Proofs.Ytnkpboobfkjibad
open Go.RowKit

/-- What the operations make. -/
def opF (A : Nat) (v1 v2 : Value) (hh : List Sp) (l : List Int) (n : Nat) : Nat → (Nat → Value) → (Nat → Nat × Nat) → World → Prop
  | 0, σ, _, _ => σ 0 = .pointer (some ⟨A, 0, none⟩)
  | 1, σ, _, _ => σ 1 = .int .i64 (n : Nat)
  | 2, σ, _, _ => σ 2 = .pointer (some ⟨A, 1, none⟩)
  | 3, σ, _, _ => σ 3 = v1
  | 4, σ, _, w => ∃ b m, σ 4 = .map (some b) ∧ MSet w b m (fun x => hasL hh x)
  | 5, σ, _, _ => σ 5 = .pointer (some ⟨A, 2, none⟩)
  | 6, σ, _, _ => σ 6 = v2
  | 7, σ, _, w => ∃ b, σ 7 = .map (some b) ∧ MSet w b l.length (fun x => l.contains x)
  | 8, σ, _, w => ∃ b, σ 8 = .map (some b) ∧ MSet w b n (fun x => upTo n x && !hasL hh x && !l.contains x)
  | 9, σ, c, w => KOwn (c 9).1 (c 9).2 w (σ 9) (openU hh l n) ∧ ∃ a k q, σ 9 = .slice a k q
  | _, _, _, _ => True
theorem opF_keep {A : Nat} {v1 v2 : Value} {hh : List Sp} {l : List Int} {n : Nat} : ∀ j ∈ [0, 1, 2, 3, 4, 5, 6, 7, 8, 9], ∀ σ c w w', opF A v1 v2 hh l n j σ c w → Below w.heap.size w w' → opF A v1 v2 hh l n j σ c w' := by
  intro j hj σ c w w' h hb
  simp only [List.mem_cons, List.not_mem_nil, or_false] at hj; rcases hj with rfl | rfl | rfl | rfl | rfl | rfl | rfl | rfl | rfl | rfl
  · exact h
  · exact h
  · exact h
  · exact h
  · exact by obtain ⟨b, m, e, hs⟩ := h; exact ⟨b, m, e, hs.below hb⟩
  · exact h
  · exact h
  · exact by obtain ⟨b, e, hs⟩ := h; exact ⟨b, e, hs.below hb⟩
  · exact by obtain ⟨b, e, hs⟩ := h; exact ⟨b, e, hs.below hb⟩
  · exact ⟨h.1.below hb, h.2⟩
theorem opF_loc {A : Nat} {v1 v2 : Value} {hh : List Sp} {l : List Int} {n : Nat} {j i : Nat} {σ : Nat → Value} {c : Nat → Nat × Nat} {w : World} {v : Value} {r : Nat × Nat} (hj : j ∈ [0, 1, 2, 3, 4, 5, 6, 7, 8, 9]) (hne : i ≠ j) (_hd : True) (h : opF A v1 v2 hh l n j σ c w) : opF A v1 v2 hh l n j (upd σ i v) (upd c i r) w := by
  simp only [List.mem_cons, List.not_mem_nil, or_false] at hj; rcases hj with rfl | rfl | rfl | rfl | rfl | rfl | rfl | rfl | rfl | rfl
  · simp only [opF, upd_other _ _ (Ne.symm hne)] at h ⊢
    exact h
  · simp only [opF, upd_other _ _ (Ne.symm hne)] at h ⊢
    exact h
  · simp only [opF, upd_other _ _ (Ne.symm hne)] at h ⊢
    exact h
  · simp only [opF, upd_other _ _ (Ne.symm hne)] at h ⊢
    exact h
  · simp only [opF, upd_other _ _ (Ne.symm hne)] at h ⊢
    exact h
  · simp only [opF, upd_other _ _ (Ne.symm hne)] at h ⊢
    exact h
  · simp only [opF, upd_other _ _ (Ne.symm hne)] at h ⊢
    exact h
  · simp only [opF, upd_other _ _ (Ne.symm hne)] at h ⊢
    exact h
  · simp only [opF, upd_other _ _ (Ne.symm hne)] at h ⊢
    exact h
  · simp only [opF, upd_other _ _ (Ne.symm hne)] at h ⊢
    exact h
set_option maxRecDepth 100000 in
set_option maxHeartbeats 8000000 in
theorem iopen_any (v : Value) (D : SdD) (w : World) (hr : SdReads w v D) (xs : List Int) (t : Bool) (hx : openL D = xs) (ht : goodSd D = t) :
    Calls Try.prog 33 #[v] w fun e w' => ∃ u0, e = .returned (.tuple #[u0, .bool t]) ∧ KOwnS (Iv w.heap.size w'.heap.size) w' u0 xs ∧ Below w.heap.size w w' := by
  have HR := hid hr
  have HX := hid hx
  have HT := hid ht
  obtain ⟨v1, v2, rfl, r1, r2⟩ := hr
  have R1 := hid r1
  have R2 := hid r2
  obtain ⟨a1, p1, rfl, l1, _⟩ := r1
  obtain ⟨a2, p2, rfl, l2, _⟩ := r2
  obtain ⟨z, hz⟩ : ∃ z, z = D.f0 := ⟨_, rfl⟩
  have HZ := hid hz
  rw [← hz] at HR ⊢
  obtain ⟨PB, BB, hsB⟩ := box_three (w := w) (.int .i64 z) (.slice a1 D.f1.length p1) (.slice a2 D.f2.length p2) 49
  obtain ⟨q0, q1, q2⟩ := PB.three
  obtain ⟨W, hW⟩ : ∃ W, W = w.alloc (.cells #[.int .i64 z, .slice a1 D.f1.length p1, .slice a2 D.f2.length p2] 49) := ⟨_, rfl⟩
  rw [← hW] at PB BB hsB
  have HP := hid PB
  have HB := hid BB
  have HW := hid hW
  clear hx ht hz PB BB hW
  go_enter Try.func33, Try.ntmps33
  go_wp2_with fail
  rw [← HW.out]
  clear q0 q1 q2 HW
  refine (igoodSd_eq _ D t HT.out _ (HR.out.below HB.out)).mono ?_
  rintro e w1 ⟨rfl, b1⟩
  replace HB := hid (HB.out.trans (b1.mono HB.out.size))
  replace HP := hid (HP.out.below b1 HP.out.lt)
  have hs1 := b1.size
  clear b1
  cases t
  · have HV : Hid (xs = []) := by show _ = _; rw [← HX.out]; unfold openL; rw [HT.out]; rfl
    go_wp2
    go_ret2
    exact ⟨_, rfl, by rw [HV.out]; exact (kown_nil _ _ _ _ _).inS, HB.out⟩
  have HV : Hid (xs = openU D.f1 D.f2 D.f0.toNat) := by show _ = _; rw [← HX.out]; unfold openL; rw [HT.out]; rfl
  obtain ⟨hz60, hl20, hl60⟩ := goodSd_few HT.out
  rw [← HZ.out] at hz60
  obtain ⟨n, hn⟩ : ∃ n : Nat, z = (n : Int) := ⟨z.toNat, by omega⟩
  have HN60 : Hid (n ≤ 60) := by show _ ≤ _; omega
  have HVN : Hid (xs = openU D.f1 D.f2 n) := by show _ = _; rw [HV.out, ← HZ.out, hn]; rfl
  obtain ⟨gb, gr⟩ := goodSd_parts HT.out
  have HI := hid (bel_in gb (by rw [← HZ.out]; exact hz60))
  have HWI : Hid (∀ x ∈ D.f2, inW x) := fun x hx => by
    have := risB_mem gr x hx
    rw [← HZ.out] at this
    exact inW_small (by omega) (by omega)
  have HN : Hid (D.f1.length ≤ 20) := hl20
  have HN2 : Hid (D.f2.length ≤ 60) := hl60
  subst hn
  clear hz60 hl20 hl60 gb gr HV
  go_wp2_with fail
  refine wp_region_any (by kernel_rfl) ?_
  change wpAny _ _ _ _ _ _ _ (World.drew _)
  obtain ⟨W2, hW2⟩ : ∃ X, X = World.drew w1 := ⟨_, rfl⟩
  replace HP : Hid (BoxL W2 w.heap.size [.int .i64 (n : Nat), .slice a1 D.f1.length p1, .slice a2 D.f2.length p2]) := by rw [hW2]; exact HP.out
  replace HB : Hid (Below w.heap.size w W2) := by rw [hW2]; exact HB.out.drew
  have R1B := hid (R1.out.below HB.out)
  have R2B := hid (R2.out.below HB.out)
  have hsW := HB.out.size
  rw [← hW2]
  clear hW2
  refine wpAny_facts' 2 (Array.replicate 12 false) #[true, true, true, true, true, true, true, true, true, true, false, false] [0, 1, 2, 3, 4, 5, 6, 7, 8, 9] (fun σ => #[.agg #[.int .i64 (n : Nat), .slice a1 D.f1.length p1, .slice a2 D.f2.length p2], .pointer (some ⟨w.heap.size, 0, none⟩), .slice none 0 0, .bool false, .agg #[.int .i64 (n : Nat), .slice a1 D.f1.length p1, .slice a2 D.f2.length p2], .bool true, .bool false, σ 0, σ 1, σ 2, σ 3, σ 4, σ 5, σ 6, σ 7, σ 8, σ 9]) (opF w.heap.size (.slice a1 D.f1.length p1) (.slice a2 D.f2.length p2) D.f1 D.f2 n) (fun _ => undef) rfl (by kernel_rfl) (by kernel_rfl) (by kernel_rfl) (by kernel_rfl) (by decide) opF_keep (fun j hj i hi σ c w v r hne hd h => opF_loc hj hne trivial h) ?_ ?_
  · intro σ c wr' hb hf hin hdj
    have e0 : opF _ _ _ _ _ _ 0 σ c wr' := hf 0 (by decide)
    have e1 : opF _ _ _ _ _ _ 1 σ c wr' := hf 1 (by decide)
    have e2 : opF _ _ _ _ _ _ 2 σ c wr' := hf 2 (by decide)
    have e3 : opF _ _ _ _ _ _ 3 σ c wr' := hf 3 (by decide)
    obtain ⟨b4, m4, e4, _⟩ : opF _ _ _ _ _ _ 4 σ c wr' := hf 4 (by decide)
    have e5 : opF _ _ _ _ _ _ 5 σ c wr' := hf 5 (by decide)
    have e6 : opF _ _ _ _ _ _ 6 σ c wr' := hf 6 (by decide)
    obtain ⟨b7, e7, _⟩ : opF _ _ _ _ _ _ 7 σ c wr' := hf 7 (by decide)
    obtain ⟨b8, e8, _⟩ : opF _ _ _ _ _ _ 8 σ c wr' := hf 8 (by decide)
    obtain ⟨k9, a9, m9, q9, e9⟩ : opF _ _ _ _ _ _ 9 σ c wr' := hf 9 (by decide)
    simp only [opF] at e0 e1 e2 e3 e5 e6
    rw [e9] at k9
    have n9 := hin 9 (by decide)
    clear hf hin hdj
    try dsimp only
    rw [e0, e1, e2, e3, e4, e5, e6, e7, e8, e9]
    have HO : Hid (KOwnS (Iv w.heap.size wr'.heap.size) wr' (.slice a9 m9 q9) xs) := by rw [HVN.out]; exact (k9.mono (by omega) n9.2.2).inS
    have HBB := hid (HB.out.trans (hb.mono HB.out.size))
    clear hb k9 n9 e0 e1 e2 e3 e4 e5 e6 e7 e8 e9
    refine wpAny_ready (rs := [10]) (by kernel_rfl) (by simp) ?_
    refine AllReady.cons rfl (fun K hK => ?_) AllReady.nil
    go_simp
    refine hK _ _ ?_
    clear hK K
    refine wpAny_ready (rs := [11]) (by kernel_rfl) (by simp) ?_
    refine AllReady.cons rfl (fun K hK => ?_) AllReady.nil
    go_simp
    refine hK _ _ ?_
    clear hK K
    refine wpAny_done (by kernel_rfl) ?_ _
    go_wp2
    go_ret2
    exact ⟨_, rfl, HO.out, HBB.out⟩
  · intro i hi σ c wr' hb hd
    simp only [List.mem_cons, List.not_mem_nil, or_false] at hi; rcases hi with rfl | rfl | rfl | rfl | rfl | rfl | rfl | rfl | rfl | rfl
    · skip
      clear hd
      refine StepF.of (a1 := ⟨#[.agg #[.int .i64 (n : Nat), .slice a1 D.f1.length p1, .slice a2 D.f2.length p2], .pointer (some ⟨w.heap.size, 0, none⟩), .slice none 0 0, .bool false, .agg #[.int .i64 (n : Nat), .slice a1 D.f1.length p1, .slice a2 D.f2.length p2], .bool true, .bool false, σ 0, σ 1, σ 2, σ 3, σ 4, σ 5, σ 6, σ 7, σ 8, σ 9], []⟩) rfl rfl (fun _ => rfl) (fun K hK => ?_)
      go_simp
      exact hK _ _ (Below.refl _ _) rfl
    · skip
      have f0 : opF _ _ _ _ _ _ 0 σ c wr' := hd 0 (by decide) (by decide)
      simp only [opF] at f0
      clear hd
      refine StepF.of (a1 := ⟨#[.agg #[.int .i64 (n : Nat), .slice a1 D.f1.length p1, .slice a2 D.f2.length p2], .pointer (some ⟨w.heap.size, 0, none⟩), .slice none 0 0, .bool false, .agg #[.int .i64 (n : Nat), .slice a1 D.f1.length p1, .slice a2 D.f2.length p2], .bool true, .bool false, (.pointer (some ⟨w.heap.size, 0, none⟩)), σ 1, σ 2, σ 3, σ 4, σ 5, σ 6, σ 7, σ 8, σ 9], []⟩) (by simp only [f0]) rfl (fun _ => rfl) (fun K hK => ?_)
      obtain ⟨c0, c1, c2⟩ := (HP.out.below hb HP.out.lt).three
      go_simp
      exact hK _ _ (Below.refl _ _) rfl
    · skip
      clear hd
      refine StepF.of (a1 := ⟨#[.agg #[.int .i64 (n : Nat), .slice a1 D.f1.length p1, .slice a2 D.f2.length p2], .pointer (some ⟨w.heap.size, 0, none⟩), .slice none 0 0, .bool false, .agg #[.int .i64 (n : Nat), .slice a1 D.f1.length p1, .slice a2 D.f2.length p2], .bool true, .bool false, σ 0, σ 1, σ 2, σ 3, σ 4, σ 5, σ 6, σ 7, σ 8, σ 9], []⟩) rfl rfl (fun _ => rfl) (fun K hK => ?_)
      go_simp
      exact hK _ _ (Below.refl _ _) rfl
    · skip
      have f2 : opF _ _ _ _ _ _ 2 σ c wr' := hd 2 (by decide) (by decide)
      simp only [opF] at f2
      clear hd
      refine StepF.of (a1 := ⟨#[.agg #[.int .i64 (n : Nat), .slice a1 D.f1.length p1, .slice a2 D.f2.length p2], .pointer (some ⟨w.heap.size, 0, none⟩), .slice none 0 0, .bool false, .agg #[.int .i64 (n : Nat), .slice a1 D.f1.length p1, .slice a2 D.f2.length p2], .bool true, .bool false, σ 0, σ 1, (.pointer (some ⟨w.heap.size, 1, none⟩)), σ 3, σ 4, σ 5, σ 6, σ 7, σ 8, σ 9], []⟩) (by simp only [f2]) rfl (fun _ => rfl) (fun K hK => ?_)
      obtain ⟨c0, c1, c2⟩ := (HP.out.below hb HP.out.lt).three
      go_simp
      exact hK _ _ (Below.refl _ _) rfl
    · skip
      have f3 : opF _ _ _ _ _ _ 3 σ c wr' := hd 3 (by decide) (by decide)
      simp only [opF] at f3
      clear hd
      refine StepF.of (a1 := ⟨#[.agg #[.int .i64 (n : Nat), .slice a1 D.f1.length p1, .slice a2 D.f2.length p2], .pointer (some ⟨w.heap.size, 0, none⟩), .slice none 0 0, .bool false, .agg #[.int .i64 (n : Nat), .slice a1 D.f1.length p1, .slice a2 D.f2.length p2], .bool true, .bool false, σ 0, σ 1, σ 2, (.slice a1 D.f1.length p1), σ 4, σ 5, σ 6, σ 7, σ 8, σ 9], []⟩) (by simp only [f3]) rfl (fun _ => rfl) (fun K hK => ?_)
      go_simp
      refine (iletters_any _ D.f1 _ (R1B.out.below hb).s (by have := HN.out; omega) HI.out).mono ?_
      rintro e w2 ⟨rfl, ⟨m, _, hs⟩, b⟩
      exact hK _ w2 b ⟨_, m, rfl, hs⟩
    · skip
      clear hd
      refine StepF.of (a1 := ⟨#[.agg #[.int .i64 (n : Nat), .slice a1 D.f1.length p1, .slice a2 D.f2.length p2], .pointer (some ⟨w.heap.size, 0, none⟩), .slice none 0 0, .bool false, .agg #[.int .i64 (n : Nat), .slice a1 D.f1.length p1, .slice a2 D.f2.length p2], .bool true, .bool false, σ 0, σ 1, σ 2, σ 3, σ 4, σ 5, σ 6, σ 7, σ 8, σ 9], []⟩) rfl rfl (fun _ => rfl) (fun K hK => ?_)
      go_simp
      exact hK _ _ (Below.refl _ _) rfl
    · skip
      have f5 : opF _ _ _ _ _ _ 5 σ c wr' := hd 5 (by decide) (by decide)
      simp only [opF] at f5
      clear hd
      refine StepF.of (a1 := ⟨#[.agg #[.int .i64 (n : Nat), .slice a1 D.f1.length p1, .slice a2 D.f2.length p2], .pointer (some ⟨w.heap.size, 0, none⟩), .slice none 0 0, .bool false, .agg #[.int .i64 (n : Nat), .slice a1 D.f1.length p1, .slice a2 D.f2.length p2], .bool true, .bool false, σ 0, σ 1, σ 2, σ 3, σ 4, (.pointer (some ⟨w.heap.size, 2, none⟩)), σ 6, σ 7, σ 8, σ 9], []⟩) (by simp only [f5]) rfl (fun _ => rfl) (fun K hK => ?_)
      obtain ⟨c0, c1, c2⟩ := (HP.out.below hb HP.out.lt).three
      go_simp
      exact hK _ _ (Below.refl _ _) rfl
    · skip
      have f6 : opF _ _ _ _ _ _ 6 σ c wr' := hd 6 (by decide) (by decide)
      simp only [opF] at f6
      clear hd
      refine StepF.of (a1 := ⟨#[.agg #[.int .i64 (n : Nat), .slice a1 D.f1.length p1, .slice a2 D.f2.length p2], .pointer (some ⟨w.heap.size, 0, none⟩), .slice none 0 0, .bool false, .agg #[.int .i64 (n : Nat), .slice a1 D.f1.length p1, .slice a2 D.f2.length p2], .bool true, .bool false, σ 0, σ 1, σ 2, σ 3, σ 4, σ 5, (.slice a2 D.f2.length p2), σ 7, σ 8, σ 9], []⟩) (by simp only [f6]) rfl (fun _ => rfl) (fun K hK => ?_)
      go_simp
      refine (isetof_any _ D.f2 _ (R2B.out.below hb) HWI.out (by have := HN2.out; omega)).mono ?_
      rintro e w2 ⟨rfl, hs, b⟩
      exact hK _ w2 b ⟨_, rfl, hs⟩
    · skip
      have f1 : opF _ _ _ _ _ _ 1 σ c wr' := hd 1 (by decide) (by decide)
      simp only [opF] at f1
      have f4 : opF _ _ _ _ _ _ 4 σ c wr' := hd 4 (by decide) (by decide)
      obtain ⟨b4, m4, f4, hs4⟩ := f4
      have f7 : opF _ _ _ _ _ _ 7 σ c wr' := hd 7 (by decide) (by decide)
      obtain ⟨b7, f7, hs7⟩ := f7
      clear hd
      refine StepF.of (a1 := ⟨#[.agg #[.int .i64 (n : Nat), .slice a1 D.f1.length p1, .slice a2 D.f2.length p2], .pointer (some ⟨w.heap.size, 0, none⟩), .slice none 0 0, .bool false, .agg #[.int .i64 (n : Nat), .slice a1 D.f1.length p1, .slice a2 D.f2.length p2], .bool true, .bool false, σ 0, (.int .i64 (n : Nat)), σ 2, σ 3, (.map (some b4)), σ 5, σ 6, (.map (some b7)), σ 8, σ 9], []⟩) (by simp only [f1, f4, f7]) rfl (fun _ => rfl) (fun K hK => ?_)
      go_simp
      refine (iopenB_any n b4 b7 _ _ _ _ _ HN60.out hs4 hs7).mono ?_
      rintro e w2 ⟨d, rfl, hs, _, b⟩
      exact hK _ w2 b ⟨_, rfl, hs⟩
    · skip
      have f8 : opF _ _ _ _ _ _ 8 σ c wr' := hd 8 (by decide) (by decide)
      obtain ⟨b8, f8, hs8⟩ := f8
      clear hd
      refine StepF.of (a1 := ⟨#[.agg #[.int .i64 (n : Nat), .slice a1 D.f1.length p1, .slice a2 D.f2.length p2], .pointer (some ⟨w.heap.size, 0, none⟩), .slice none 0 0, .bool false, .agg #[.int .i64 (n : Nat), .slice a1 D.f1.length p1, .slice a2 D.f2.length p2], .bool true, .bool false, σ 0, σ 1, σ 2, σ 3, σ 4, σ 5, σ 6, σ 7, (.map (some b8)), σ 9], []⟩) (by simp only [f8]) rfl (fun _ => rfl) (fun K hK => ?_)
      go_simp
      refine (iinorder_any b8 n _ _ hs8 (by have := HN60.out; omega)).mono ?_
      rintro e w2 ⟨u, rfl, ys, ho, hlt, hmem, _, _, b⟩
      obtain rfl : ys = openU D.f1 D.f2 n := rising_eq hlt (openU_rising _ _ _) (fun x => by rw [hmem, openU_mem])
      exact hK u w2 b ⟨ho, ho.sform⟩
end Go.Proofs.Ytnkpboobfkjibad
