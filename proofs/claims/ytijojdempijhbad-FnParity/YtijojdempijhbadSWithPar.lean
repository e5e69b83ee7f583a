/-
  spec.WithParity: pieces with their parity behind, in memory of their own, or the zero answer; nothing old is written.
-/
import Derived.Test.YtijojdempijhbadSIn
import Derived.Test.YtijojdempijhbadSXor
import Derived.Test.YtijojdempijhbadXFirst
import Derived.Test.YtijojdempijhbadWpMath
import Derived.Test.YtijojdempijhbadXApp
import Derived.Test.YtijojdempijhbadRegFacts
namespace Go.Proofs.Ytijojdempijhbad
open Go.RowKit
theorem xform_of {w : World} {base : Nat} {t : TypeId} {size n : Nat} {v : Value} {us : List Value} (h : w.ownsRow base t size v n us) : ∃ a k q, v = .slice a k q := by
  rcases h.2 with ⟨rfl, rfl⟩ | ⟨g, cap, _, rfl, _⟩
  · exact ⟨_, _, _, rfl⟩
  · exact ⟨_, _, _, rfl⟩
/-- What the operations make. -/
def wpF (u0 pv : Value) (z X : ByteArray) (n : Nat) (ys : List XEl) : Nat → (Nat → Value) → (Nat → Nat × Nat) → World → Prop
  | 0, σ, _, _ => ∃ b, σ 0 = .slice (some ⟨b, 0, none⟩) 0 0
  | 1, σ, _, _ => σ 1 = u0
  | 2, σ, c, w => w.ownsRow (c 2).1 9 1 (σ 2) ys.length (xflat ys) ∧ ∃ a k q, σ 2 = .slice a k q
  | 3, σ, _, _ => σ 3 = u0
  | 4, σ, _, _ => σ 4 = u0
  | 5, σ, _, _ => σ 5 = pv
  | 6, σ, _, _ => σ 6 = .string z
  | 7, σ, _, _ => σ 7 = .int .i64 (n : Nat)
  | 8, σ, _, _ => σ 8 = .string X
  | 9, σ, _, w => ∃ b, σ 9 = .slice (some ⟨b, 0, none⟩) 1 1 ∧ XReads w (.slice (some ⟨b, 0, none⟩) 1 1) [X]
  | _, _, _, _ => True
theorem wpF_keep {u0 pv : Value} {z X : ByteArray} {n : Nat} {ys : List XEl} : ∀ j ∈ [0, 1, 2, 3, 4, 5, 6, 7, 8, 9], ∀ σ c w w', wpF u0 pv z X n ys j σ c w → Below w.heap.size w w' → wpF u0 pv z X n ys j σ c w' := by
  intro j hj σ c w w' h hb
  simp only [List.mem_cons, List.not_mem_nil, or_false] at hj; rcases hj with rfl | rfl | rfl | rfl | rfl | rfl | rfl | rfl | rfl | rfl
  · exact h
  · exact h
  · exact ⟨xowns_below h.1 hb, h.2⟩
  · exact h
  · exact h
  · exact h
  · exact h
  · exact h
  · exact h
  · exact by obtain ⟨b, e, hs⟩ := h; exact ⟨b, e, hs.below hb⟩
theorem wpF_loc {u0 pv : Value} {z X : ByteArray} {n : Nat} {ys : List XEl} {j i : Nat} {σ : Nat → Value} {c : Nat → Nat × Nat} {w : World} {v : Value} {r : Nat × Nat} (hj : j ∈ [0, 1, 2, 3, 4, 5, 6, 7, 8, 9]) (hne : i ≠ j) (_hd : True) (h : wpF u0 pv z X n ys j σ c w) : wpF u0 pv z X n ys j (upd σ i v) (upd c i r) w := by
  simp only [List.mem_cons, List.not_mem_nil, or_false] at hj; rcases hj with rfl | rfl | rfl | rfl | rfl | rfl | rfl | rfl | rfl | rfl
  · simp only [wpF, upd_other _ _ (Ne.symm hne)] at h ⊢
    exact h
  · simp only [wpF, upd_other _ _ (Ne.symm hne)] at h ⊢
    exact h
  · simp only [wpF, upd_other _ _ (Ne.symm hne)] at h ⊢
    exact h
  · simp only [wpF, upd_other _ _ (Ne.symm hne)] at h ⊢
    exact h
  · simp only [wpF, upd_other _ _ (Ne.symm hne)] at h ⊢
    exact h
  · simp only [wpF, upd_other _ _ (Ne.symm hne)] at h ⊢
    exact h
  · simp only [wpF, upd_other _ _ (Ne.symm hne)] at h ⊢
    exact h
  · simp only [wpF, upd_other _ _ (Ne.symm hne)] at h ⊢
    exact h
  · simp only [wpF, upd_other _ _ (Ne.symm hne)] at h ⊢
    exact h
  · simp only [wpF, upd_other _ _ (Ne.symm hne)] at h ⊢
    exact h
set_option maxRecDepth 100000 in
set_option maxHeartbeats 8000000 in
theorem swithpar_any (v : Value) (xs : List XEl) (Y : List XEl) (t : Bool) (hY : wpL xs = Y) (ht : wpB xs = t) (w : World) (hr : XReads w v xs) :
    Calls Try.prog 57 #[v] w fun e w' => ∃ u0, e = .returned (.tuple #[u0, .bool t]) ∧ XOwn w.heap.size w'.heap.size w' u0 Y ∧ Below w.heap.size w w' := by
  have HR := hid hr
  have HY := hid hY
  have Ht := hid ht
  obtain ⟨T, hT⟩ : ∃ T, parT xs = T := ⟨_, rfl⟩
  have HT := hid hT
  obtain ⟨gd, hg⟩ : ∃ g, goodP xs = g := ⟨_, rfl⟩
  have HG := hid hg
  clear hY ht hT hg
  cases t
  · have HE : Hid (Y = []) := by show _ = _; rw [← HY.out]; unfold wpL; rw [Ht.out]; rfl
    have H8 : Hid (gd = true → xs.length = 8) := fun h => by
      have := Ht.out
      unfold wpB at this
      rw [HG.out, h] at this
      simpa using this
    obtain ⟨a, cap, rfl, hll, _⟩ := hr
    cases gd
    · go_enter Try.func57, Try.ntmps57
      go_wp2_with fail
      refine (spieces_eq _ xs false HG.out _ HR.out).mono ?_
      rintro e w' ⟨rfl, hw⟩; obtain rfl := hw.symm
      go_wp2
      go_ret2
      exact ⟨_, rfl, by rw [HE.out]; exact xown_nil _ _ _ _ _, Below.refl _ _⟩
    · have h8 : ((xs.length : Int) == 8) = true := by have := H8.out rfl; rw [beq_iff_eq]; omega
      go_enter Try.func57, Try.ntmps57
      go_wp2_with fail
      refine (spieces_eq _ xs true HG.out _ HR.out).mono ?_
      rintro e w' ⟨rfl, hw⟩; obtain rfl := hw.symm
      go_wp2
      go_ret2
      exact ⟨_, rfl, by rw [HE.out]; exact xown_nil _ _ _ _ _, Below.refl _ _⟩
  have hgg : goodP xs = true := by have := Ht.out; unfold wpB at this; rw [Bool.and_eq_true] at this; exact this.1
  have h8' : xs.length ≠ 8 := by have := Ht.out; unfold wpB at this; rw [Bool.and_eq_true] at this; simpa using this.2
  obtain rfl : true = gd := by rw [← HG.out, hgg]
  obtain ⟨n, h1, h2, h3, h4, hs⟩ := goodP_parts hgg
  have HE : Hid (Y = xs ++ [T]) := by show _ = _; rw [← HY.out, ← HT.out]; unfold wpL; rw [Ht.out]; rfl
  have HP : Hid (T = ⟨(xorL xs n).toArray⟩) := by show _ = _; rw [← HT.out]; exact parT_yes hgg h1
  have HN := hid hs
  have h8 : ((xs.length : Int) == 8) = false := by rw [← Bool.not_eq_true, beq_iff_eq]; omega
  obtain ⟨g, off, cap, rfl, c1⟩ := xfirst hr h3
  obtain ⟨z, hz⟩ : ∃ z, xs.getD 0 xz = z := ⟨_, rfl⟩
  rw [hz] at c1 h1
  have hzi : (z.size : Int) = (n : Int) := by rw [h1]
  have hlt0 : (0 : Int) < (xs.length : Int) := by omega
  have hlt1 : 0 < xs.length := by omega
  clear hs hr hz h1 hgg h8' HY
  go_enter Try.func57, Try.ntmps57
  go_wp2_with fail
  refine (spieces_eq _ xs true HG.out _ HR.out).mono ?_
  rintro e w' ⟨rfl, hw⟩; obtain rfl := hw.symm
  go_wp2_with fail
  refine wp_region_any (by kernel_rfl) ?_
  change wpAny _ _ _ _ _ _ _ (World.drew _)
  obtain ⟨W2, hW2⟩ : ∃ X, X = World.drew w := ⟨_, rfl⟩
  have BW : Hid (Below w.heap.size w W2) := by rw [hW2]; exact (Below.refl _ _).drew
  replace c1 : W2.cell? ⟨g, off, none⟩ = some (.string z) := by rw [hW2]; exact c1
  have hsW := BW.out.size
  rw [← hW2]
  clear hW2
  refine wpAny_facts' 3 (Array.replicate 13 false) #[true, true, true, true, true, true, true, true, true, true, false, false, false] [0, 1, 2, 3, 4, 5, 6, 7, 8, 9] (fun σ => #[.slice (some ⟨g, off, none⟩) xs.length cap, undef, .slice none 0 0, .bool false, .slice (some ⟨g, off, none⟩) xs.length cap, .bool true, .bool false, .bool false, .slice (some ⟨g, off, none⟩) xs.length cap, .int .i64 (xs.length : Nat), .bool false, .bool false, σ 0, σ 1, σ 2, σ 3, σ 4, σ 5, σ 6, σ 7, σ 8, σ 9, undef]) (wpF (.slice (some ⟨g, off, none⟩) xs.length cap) (.pointer (some ⟨g, off, none⟩)) z T n xs) (fun _ => undef) rfl (by kernel_rfl) (by kernel_rfl) (by kernel_rfl) (by kernel_rfl) (by decide) wpF_keep (fun j hj i hi σ c w v r hne hd h => wpF_loc hj hne trivial h) ?_ ?_
  · intro σ c wr' hb hf hin hdj
    obtain ⟨bb0, e0⟩ : wpF _ _ _ _ _ _ 0 σ c wr' := hf 0 (by decide)
    have e1 : wpF _ _ _ _ _ _ 1 σ c wr' := hf 1 (by decide)
    obtain ⟨o2, a2, m2, q2, e2⟩ : wpF _ _ _ _ _ _ 2 σ c wr' := hf 2 (by decide)
    have e3 : wpF _ _ _ _ _ _ 3 σ c wr' := hf 3 (by decide)
    have e4 : wpF _ _ _ _ _ _ 4 σ c wr' := hf 4 (by decide)
    have e5 : wpF _ _ _ _ _ _ 5 σ c wr' := hf 5 (by decide)
    have e6 : wpF _ _ _ _ _ _ 6 σ c wr' := hf 6 (by decide)
    have e7 : wpF _ _ _ _ _ _ 7 σ c wr' := hf 7 (by decide)
    have e8 : wpF _ _ _ _ _ _ 8 σ c wr' := hf 8 (by decide)
    obtain ⟨bb9, e9, r9⟩ : wpF _ _ _ _ _ _ 9 σ c wr' := hf 9 (by decide)
    simp only [wpF] at e1 e3 e4 e5 e6 e7 e8
    rw [e2] at o2
    have n2 := hin 2 (by decide)
    clear hf hin hdj
    try dsimp only
    rw [e0, e1, e2, e3, e4, e5, e6, e7, e8, e9]
    have HBB := hid (BW.out.trans (hb.mono BW.out.size))
    have O2 := hid o2
    have R9 := hid r9
    have hc2 : W2.heap.size ≤ (c 2).1 ∧ (c 2).1 ≤ wr'.heap.size := by omega
    clear hb o2 r9 n2 e0 e1 e2 e3 e4 e5 e6 e7 e8 e9
    refine wpAny_ready (rs := [10]) (by kernel_rfl) (by simp) ?_
    refine AllReady.cons rfl (fun K hK => ?_) AllReady.nil
    refine step_append_x (by rfl) _ _ (by rfl) (c 2).1 _ xs.length xs (by rfl) O2.out _ [T] (by rfl) R9.out (by simp; omega) hc2.2 ?_
    intro v' w3 hown hgrow _
    refine hK _ _ ?_
    clear hK K
    have HO : Hid (XOwn w.heap.size w3.heap.size w3 v' Y) := by
      show XOwn _ _ _ _ _
      rw [HE.out]
      exact (XOwn.of_owns hown (by simp; omega)).mono (by omega) (Nat.le_refl _)
    have HB3 : Hid (Below w.heap.size w w3) := HBB.out.grown hgrow HBB.out.size (by intro k hk; have := (O2.out.lt k hk).1; omega)
    clear hown hgrow
    refine wpAny_ready (rs := [11]) (by kernel_rfl) (by simp) ?_
    refine AllReady.cons rfl (fun K hK => ?_) AllReady.nil
    go_simp
    refine hK _ _ ?_
    clear hK K
    refine wpAny_ready (rs := [12]) (by kernel_rfl) (by simp) ?_
    refine AllReady.cons rfl (fun K hK => ?_) AllReady.nil
    go_simp
    refine hK _ _ ?_
    clear hK K
    refine wpAny_done (by kernel_rfl) ?_ _
    go_wp2
    go_ret2
    exact ⟨_, rfl, HO.out, HB3.out⟩
  · intro i hi σ c wr' hb hd
    simp only [List.mem_cons, List.not_mem_nil, or_false] at hi; rcases hi with rfl | rfl | rfl | rfl | rfl | rfl | rfl | rfl | rfl | rfl
    · skip
      clear hd
      refine StepF.of (a1 := ⟨#[.slice (some ⟨g, off, none⟩) xs.length cap, undef, .slice none 0 0, .bool false, .slice (some ⟨g, off, none⟩) xs.length cap, .bool true, .bool false, .bool false, .slice (some ⟨g, off, none⟩) xs.length cap, .int .i64 (xs.length : Nat), .bool false, .bool false, σ 0, σ 1, σ 2, σ 3, σ 4, σ 5, σ 6, σ 7, σ 8, σ 9, undef], []⟩) rfl rfl (fun _ => rfl) (fun K hK => ?_)
      go_simp
      exact hK _ _ ((Below.refl _ _).alloc (Nat.le_refl _) _) ⟨_, rfl⟩
    · skip
      clear hd
      refine StepF.of (a1 := ⟨#[.slice (some ⟨g, off, none⟩) xs.length cap, undef, .slice none 0 0, .bool false, .slice (some ⟨g, off, none⟩) xs.length cap, .bool true, .bool false, .bool false, .slice (some ⟨g, off, none⟩) xs.length cap, .int .i64 (xs.length : Nat), .bool false, .bool false, σ 0, σ 1, σ 2, σ 3, σ 4, σ 5, σ 6, σ 7, σ 8, σ 9, undef], []⟩) rfl rfl (fun _ => rfl) (fun K hK => ?_)
      go_simp
      exact hK _ _ (Below.refl _ _) rfl
    · skip
      have f0 : wpF _ _ _ _ _ _ 0 σ c wr' := hd 0 (by decide) (by decide)
      obtain ⟨bb0, f0⟩ := f0
      have f1 : wpF _ _ _ _ _ _ 1 σ c wr' := hd 1 (by decide) (by decide)
      simp only [wpF] at f1
      clear hd
      refine StepF.of (a1 := ⟨#[.slice (some ⟨g, off, none⟩) xs.length cap, undef, .slice none 0 0, .bool false, .slice (some ⟨g, off, none⟩) xs.length cap, .bool true, .bool false, .bool false, .slice (some ⟨g, off, none⟩) xs.length cap, .int .i64 (xs.length : Nat), .bool false, .bool false, (.slice (some ⟨bb0, 0, none⟩) 0 0), (.slice (some ⟨g, off, none⟩) xs.length cap), σ 2, σ 3, σ 4, σ 5, σ 6, σ 7, σ 8, σ 9, undef], []⟩) (by simp only [f0, f1]) rfl (fun _ => rfl) (fun K hK => ?_)
      refine step_clone_x (by rfl) _ _ (by rfl) bb0 (by rfl) _ xs (by rfl) (HR.out.below (BW.out.trans (hb.mono BW.out.size))) (by omega) hlt1 ?_
      intro u2 w2 k2 b
      exact hK u2 w2 b ⟨by simpa [upd] using k2, xform_of k2⟩
    · skip
      clear hd
      refine StepF.of (a1 := ⟨#[.slice (some ⟨g, off, none⟩) xs.length cap, undef, .slice none 0 0, .bool false, .slice (some ⟨g, off, none⟩) xs.length cap, .bool true, .bool false, .bool false, .slice (some ⟨g, off, none⟩) xs.length cap, .int .i64 (xs.length : Nat), .bool false, .bool false, σ 0, σ 1, σ 2, σ 3, σ 4, σ 5, σ 6, σ 7, σ 8, σ 9, undef], []⟩) rfl rfl (fun _ => rfl) (fun K hK => ?_)
      go_simp
      exact hK _ _ (Below.refl _ _) rfl
    · skip
      clear hd
      refine StepF.of (a1 := ⟨#[.slice (some ⟨g, off, none⟩) xs.length cap, undef, .slice none 0 0, .bool false, .slice (some ⟨g, off, none⟩) xs.length cap, .bool true, .bool false, .bool false, .slice (some ⟨g, off, none⟩) xs.length cap, .int .i64 (xs.length : Nat), .bool false, .bool false, σ 0, σ 1, σ 2, σ 3, σ 4, σ 5, σ 6, σ 7, σ 8, σ 9, undef], []⟩) rfl rfl (fun _ => rfl) (fun K hK => ?_)
      go_simp
      exact hK _ _ (Below.refl _ _) rfl
    · skip
      have f4 : wpF _ _ _ _ _ _ 4 σ c wr' := hd 4 (by decide) (by decide)
      simp only [wpF] at f4
      clear hd
      refine StepF.of (a1 := ⟨#[.slice (some ⟨g, off, none⟩) xs.length cap, undef, .slice none 0 0, .bool false, .slice (some ⟨g, off, none⟩) xs.length cap, .bool true, .bool false, .bool false, .slice (some ⟨g, off, none⟩) xs.length cap, .int .i64 (xs.length : Nat), .bool false, .bool false, σ 0, σ 1, σ 2, σ 3, (.slice (some ⟨g, off, none⟩) xs.length cap), σ 5, σ 6, σ 7, σ 8, σ 9, undef], []⟩) (by simp only [f4]) rfl (fun _ => rfl) (fun K hK => ?_)
      go_simp
      exact hK _ _ (Below.refl _ _) rfl
    · skip
      have f5 : wpF _ _ _ _ _ _ 5 σ c wr' := hd 5 (by decide) (by decide)
      simp only [wpF] at f5
      clear hd
      refine StepF.of (a1 := ⟨#[.slice (some ⟨g, off, none⟩) xs.length cap, undef, .slice none 0 0, .bool false, .slice (some ⟨g, off, none⟩) xs.length cap, .bool true, .bool false, .bool false, .slice (some ⟨g, off, none⟩) xs.length cap, .int .i64 (xs.length : Nat), .bool false, .bool false, σ 0, σ 1, σ 2, σ 3, σ 4, (.pointer (some ⟨g, off, none⟩)), σ 6, σ 7, σ 8, σ 9, undef], []⟩) (by simp only [f5]) rfl (fun _ => rfl) (fun K hK => ?_)
      have c2 := (hb.cell (p := ⟨g, off, none⟩) (lt_of_cell c1)).trans c1
      go_simp
      exact hK _ _ (Below.refl _ _) rfl
    · skip
      have f6 : wpF _ _ _ _ _ _ 6 σ c wr' := hd 6 (by decide) (by decide)
      simp only [wpF] at f6
      clear hd
      refine StepF.of (a1 := ⟨#[.slice (some ⟨g, off, none⟩) xs.length cap, undef, .slice none 0 0, .bool false, .slice (some ⟨g, off, none⟩) xs.length cap, .bool true, .bool false, .bool false, .slice (some ⟨g, off, none⟩) xs.length cap, .int .i64 (xs.length : Nat), .bool false, .bool false, σ 0, σ 1, σ 2, σ 3, σ 4, σ 5, (.string z), σ 7, σ 8, σ 9, undef], []⟩) (by simp only [f6]) rfl (fun _ => rfl) (fun K hK => ?_)
      go_simp
      exact hK _ _ (Below.refl _ _) rfl
    · skip
      have f3 : wpF _ _ _ _ _ _ 3 σ c wr' := hd 3 (by decide) (by decide)
      simp only [wpF] at f3
      have f7 : wpF _ _ _ _ _ _ 7 σ c wr' := hd 7 (by decide) (by decide)
      simp only [wpF] at f7
      clear hd
      refine StepF.of (a1 := ⟨#[.slice (some ⟨g, off, none⟩) xs.length cap, undef, .slice none 0 0, .bool false, .slice (some ⟨g, off, none⟩) xs.length cap, .bool true, .bool false, .bool false, .slice (some ⟨g, off, none⟩) xs.length cap, .int .i64 (xs.length : Nat), .bool false, .bool false, σ 0, σ 1, σ 2, (.slice (some ⟨g, off, none⟩) xs.length cap), σ 4, σ 5, σ 6, (.int .i64 (n : Nat)), σ 8, σ 9, undef], []⟩) (by simp only [f3, f7]) rfl (fun _ => rfl) (fun K hK => ?_)
      go_simp
      refine (sxor_any _ xs n _ (HR.out.below (BW.out.trans (hb.mono BW.out.size))) h2 HN.out).mono ?_
      rintro e w2 ⟨rfl, b⟩
      exact hK _ w2 b (by rw [HP.out]; rfl)
    · skip
      have f8 : wpF _ _ _ _ _ _ 8 σ c wr' := hd 8 (by decide) (by decide)
      simp only [wpF] at f8
      clear hd
      refine StepF.of (a1 := ⟨#[.slice (some ⟨g, off, none⟩) xs.length cap, undef, .slice none 0 0, .bool false, .slice (some ⟨g, off, none⟩) xs.length cap, .bool true, .bool false, .bool false, .slice (some ⟨g, off, none⟩) xs.length cap, .int .i64 (xs.length : Nat), .bool false, .bool false, σ 0, σ 1, σ 2, σ 3, σ 4, σ 5, σ 6, σ 7, (.string T), σ 9, undef], []⟩) (by simp only [f8]) rfl (fun _ => rfl) (fun K hK => ?_)
      go_simp
      exact hK _ _ ((Below.refl _ _).alloc (Nat.le_refl _) _) ⟨_, rfl, xreads_one _ _⟩
end Go.Proofs.Ytijojdempijhbad
