/-
  spec.IsWhole: whether the parity of pieces is of noughts alone, or the zero answer; nothing old is written.
-/
import Derived.Test.YtijojdempijhbadSIn
import Derived.Test.YtijojdempijhbadSXor
import Derived.Test.YtijojdempijhbadXFirst
import Derived.Test.YtijojdempijhbadZeroMath
import Derived.Test.YtijojdempijhbadRegFacts
namespace Go.Proofs.Ytijojdempijhbad
open Go.RowKit
theorem whole_eq (xs : List XEl) (n : Nat) : zeroB ⟨(xorL xs n).toArray⟩ = ((⟨(xorL xs n).toArray⟩ : ByteArray).toList == (⟨(List.replicate n 0).toArray⟩ : ByteArray).toList) := by
  rw [Bool.eq_iff_iff, zeroB_list, length_xorL, beq_iff_eq, ByteArray.toList_mk, ByteArray.toList_mk]
/-- What the operations make. -/
def whF (u0 pv : Value) (z X Z : ByteArray) (n : Nat) : Nat → (Nat → Value) → (Nat → Nat × Nat) → World → Prop
  | 0, σ, _, _ => σ 0 = u0
  | 1, σ, _, _ => σ 1 = u0
  | 2, σ, _, _ => σ 2 = pv
  | 3, σ, _, _ => σ 3 = .string z
  | 4, σ, _, _ => σ 4 = .int .i64 (n : Nat)
  | 5, σ, _, _ => σ 5 = .string X
  | 6, σ, _, _ => σ 6 = u0
  | 7, σ, _, _ => σ 7 = pv
  | 8, σ, _, _ => σ 8 = .string z
  | 9, σ, _, _ => σ 9 = .int .i64 (n : Nat)
  | 10, σ, _, w => ∃ b, σ 10 = .slice (some ⟨b, 0, none⟩) n n ∧ w.rowIs b 5 n (fun _ => .int .u8 0)
  | 11, σ, _, _ => σ 11 = .string Z
  | _, _, _, _ => True
theorem whF_keep {u0 pv : Value} {z X Z : ByteArray} {n : Nat} : ∀ j ∈ [0, 1, 2, 3, 4, 5, 6, 7, 8, 9, 10, 11], ∀ σ c w w', whF u0 pv z X Z n j σ c w → Below w.heap.size w w' → whF u0 pv z X Z n j σ c w' := by
  intro j hj σ c w w' h hb
  simp only [List.mem_cons, List.not_mem_nil, or_false] at hj; rcases hj with rfl | rfl | rfl | rfl | rfl | rfl | rfl | rfl | rfl | rfl | rfl | rfl
  · exact h
  · exact h
  · exact h
  · exact h
  · exact h
  · exact h
  · exact h
  · exact h
  · exact h
  · exact h
  · exact by obtain ⟨b, e, hs⟩ := h; exact ⟨b, e, hs.of_block (hb.block b hs.lt)⟩
  · exact h
theorem whF_loc {u0 pv : Value} {z X Z : ByteArray} {n : Nat} {j i : Nat} {σ : Nat → Value} {c : Nat → Nat × Nat} {w : World} {v : Value} {r : Nat × Nat} (hj : j ∈ [0, 1, 2, 3, 4, 5, 6, 7, 8, 9, 10, 11]) (hne : i ≠ j) (_hd : True) (h : whF u0 pv z X Z n j σ c w) : whF u0 pv z X Z n j (upd σ i v) (upd c i r) w := by
  simp only [List.mem_cons, List.not_mem_nil, or_false] at hj; rcases hj with rfl | rfl | rfl | rfl | rfl | rfl | rfl | rfl | rfl | rfl | rfl | rfl
  · simp only [whF, upd_other _ _ (Ne.symm hne)] at h ⊢
    exact h
  · simp only [whF, upd_other _ _ (Ne.symm hne)] at h ⊢
    exact h
  · simp only [whF, upd_other _ _ (Ne.symm hne)] at h ⊢
    exact h
  · simp only [whF, upd_other _ _ (Ne.symm hne)] at h ⊢
    exact h
  · simp only [whF, upd_other _ _ (Ne.symm hne)] at h ⊢
    exact h
  · simp only [whF, upd_other _ _ (Ne.symm hne)] at h ⊢
    exact h
  · simp only [whF, upd_other _ _ (Ne.symm hne)] at h ⊢
    exact h
  · simp only [whF, upd_other _ _ (Ne.symm hne)] at h ⊢
    exact h
  · simp only [whF, upd_other _ _ (Ne.symm hne)] at h ⊢
    exact h
  · simp only [whF, upd_other _ _ (Ne.symm hne)] at h ⊢
    exact h
  · simp only [whF, upd_other _ _ (Ne.symm hne)] at h ⊢
    exact h
  · simp only [whF, upd_other _ _ (Ne.symm hne)] at h ⊢
    exact h
set_option maxRecDepth 100000 in
set_option maxHeartbeats 8000000 in
theorem swhole_any (v : Value) (xs : List XEl) (b t : Bool) (hb : wholeB xs = b) (ht : goodP xs = t) (w : World) (hr : XReads w v xs) :
    Calls Try.prog 67 #[v] w fun e w' => e = .returned (.tuple #[.bool b, .bool t]) ∧ Below w.heap.size w w' := by
  have HR := hid hr
  have HV := hid hb
  have Ht := hid ht
  clear hb ht
  cases t
  · have HE : Hid (b = false) := by show _ = _; rw [← HV.out]; unfold wholeB; rw [Ht.out]; rfl
    clear hr
    go_enter Try.func67, Try.ntmps67
    go_wp2_with fail
    refine (spieces_eq _ xs false Ht.out _ HR.out).mono ?_
    rintro e w' ⟨rfl, hw⟩; obtain rfl := hw.symm
    go_wp2
    go_ret2
    exact ⟨by rw [HE.out]; rfl, Below.refl _ _⟩
  obtain ⟨n, h1, h2, h3, h4, hs⟩ := goodP_parts Ht.out
  have HE : Hid (b = zeroB ⟨(xorL xs n).toArray⟩) := by show _ = _; rw [← HV.out]; unfold wholeB; rw [Ht.out, parT_yes Ht.out h1]; rfl
  have HN := hid hs
  obtain ⟨g, off, cap, rfl, c1⟩ := xfirst hr h3
  obtain ⟨z, hz⟩ : ∃ z, xs.getD 0 xz = z := ⟨_, rfl⟩
  rw [hz] at c1 h1
  have hzi : (z.size : Int) = (n : Int) := by rw [h1]
  have hlt0 : (0 : Int) < (xs.length : Int) := by omega
  have hlt1 : 0 < xs.length := by omega
  clear hs hr hz h1
  have mkU := run_make_row' (P := Try.prog) 22 5 (.int .u8 0) 1 Try.underlying22 info_u8 rfl .i64 .i64 n (by omega) (by omega)
  go_enter Try.func67, Try.ntmps67
  go_wp2_with fail
  refine (spieces_eq _ xs true Ht.out _ HR.out).mono ?_
  rintro e w' ⟨rfl, hw⟩; obtain rfl := hw.symm
  go_wp2_with fail
  obtain ⟨X, hX⟩ : ∃ X : ByteArray, X = ⟨(xorL xs n).toArray⟩ := ⟨_, rfl⟩
  obtain ⟨Z, hZ⟩ : ∃ Z : ByteArray, Z = ⟨(List.replicate n 0).toArray⟩ := ⟨_, rfl⟩
  have HX := hid hX
  have HZ := hid hZ
  clear hX hZ
  refine wp_region_any (by kernel_rfl) ?_
  change wpAny _ _ _ _ _ _ _ (World.drew _)
  obtain ⟨W2, hW2⟩ : ∃ X, X = World.drew w := ⟨_, rfl⟩
  have BW : Hid (Below w.heap.size w W2) := by rw [hW2]; exact (Below.refl _ _).drew
  replace c1 : W2.cell? ⟨g, off, none⟩ = some (.string z) := by rw [hW2]; exact c1
  rw [← hW2]
  clear hW2
  refine wpAny_facts' 3 (Array.replicate 15 false) #[true, true, true, true, true, true, true, true, true, true, true, true, false, false, false] [0, 1, 2, 3, 4, 5, 6, 7, 8, 9, 10, 11] (fun σ => #[.slice (some ⟨g, off, none⟩) xs.length cap, undef, .bool false, .bool false, .slice (some ⟨g, off, none⟩) xs.length cap, .bool true, .bool false, σ 0, σ 1, σ 2, σ 3, σ 4, σ 5, σ 6, σ 7, σ 8, σ 9, σ 10, σ 11, undef]) (whF (.slice (some ⟨g, off, none⟩) xs.length cap) (.pointer (some ⟨g, off, none⟩)) z X Z n) (fun _ => undef) rfl (by kernel_rfl) (by kernel_rfl) (by kernel_rfl) (by kernel_rfl) (by decide) whF_keep (fun j hj i hi σ c w v r hne hd h => whF_loc hj hne trivial h) ?_ ?_
  · intro σ c wr' hb hf hin hdj
    have e0 : whF _ _ _ _ _ _ 0 σ c wr' := hf 0 (by decide)
    have e1 : whF _ _ _ _ _ _ 1 σ c wr' := hf 1 (by decide)
    have e2 : whF _ _ _ _ _ _ 2 σ c wr' := hf 2 (by decide)
    have e3 : whF _ _ _ _ _ _ 3 σ c wr' := hf 3 (by decide)
    have e4 : whF _ _ _ _ _ _ 4 σ c wr' := hf 4 (by decide)
    have e5 : whF _ _ _ _ _ _ 5 σ c wr' := hf 5 (by decide)
    have e6 : whF _ _ _ _ _ _ 6 σ c wr' := hf 6 (by decide)
    have e7 : whF _ _ _ _ _ _ 7 σ c wr' := hf 7 (by decide)
    have e8 : whF _ _ _ _ _ _ 8 σ c wr' := hf 8 (by decide)
    have e9 : whF _ _ _ _ _ _ 9 σ c wr' := hf 9 (by decide)
    obtain ⟨b10, e10, _⟩ : whF _ _ _ _ _ _ 10 σ c wr' := hf 10 (by decide)
    have e11 : whF _ _ _ _ _ _ 11 σ c wr' := hf 11 (by decide)
    simp only [whF] at e0 e1 e2 e3 e4 e5 e6 e7 e8 e9 e11
    clear hf hin hdj
    try dsimp only
    rw [e0, e1, e2, e3, e4, e5, e6, e7, e8, e9, e10, e11]
    have HBB := hid (BW.out.trans (hb.mono BW.out.size))
    clear hb e0 e1 e2 e3 e4 e5 e6 e7 e8 e9 e10 e11
    refine wpAny_ready (rs := [12]) (by kernel_rfl) (by simp) ?_
    refine AllReady.cons rfl (fun K hK => ?_) AllReady.nil
    go_simp
    refine hK _ _ ?_
    clear hK K
    refine wpAny_ready (rs := [13]) (by kernel_rfl) (by simp) ?_
    refine AllReady.cons rfl (fun K hK => ?_) AllReady.nil
    go_simp
    refine hK _ _ ?_
    clear hK K
    refine wpAny_ready (rs := [14]) (by kernel_rfl) (by simp) ?_
    refine AllReady.cons rfl (fun K hK => ?_) AllReady.nil
    go_simp
    refine hK _ _ ?_
    clear hK K
    refine wpAny_done (by kernel_rfl) ?_ _
    go_wp2
    go_ret2
    refine ⟨?_, HBB.out⟩
    rw [HE.out, whole_eq xs n, ← HX.out, ← HZ.out]
    rfl
  · intro i hi σ c wr' hb hd
    simp only [List.mem_cons, List.not_mem_nil, or_false] at hi; rcases hi with rfl | rfl | rfl | rfl | rfl | rfl | rfl | rfl | rfl | rfl | rfl | rfl
    · skip
      clear hd
      refine StepF.of (a1 := ⟨#[.slice (some ⟨g, off, none⟩) xs.length cap, undef, .bool false, .bool false, .slice (some ⟨g, off, none⟩) xs.length cap, .bool true, .bool false, σ 0, σ 1, σ 2, σ 3, σ 4, σ 5, σ 6, σ 7, σ 8, σ 9, σ 10, σ 11, undef], []⟩) rfl rfl (fun _ => rfl) (fun K hK => ?_)
      go_simp
      exact hK _ _ (Below.refl _ _) rfl
    · skip
      clear hd
      refine StepF.of (a1 := ⟨#[.slice (some ⟨g, off, none⟩) xs.length cap, undef, .bool false, .bool false, .slice (some ⟨g, off, none⟩) xs.length cap, .bool true, .bool false, σ 0, σ 1, σ 2, σ 3, σ 4, σ 5, σ 6, σ 7, σ 8, σ 9, σ 10, σ 11, undef], []⟩) rfl rfl (fun _ => rfl) (fun K hK => ?_)
      go_simp
      exact hK _ _ (Below.refl _ _) rfl
    · skip
      have f1 : whF _ _ _ _ _ _ 1 σ c wr' := hd 1 (by decide) (by decide)
      simp only [whF] at f1
      clear hd
      refine StepF.of (a1 := ⟨#[.slice (some ⟨g, off, none⟩) xs.length cap, undef, .bool false, .bool false, .slice (some ⟨g, off, none⟩) xs.length cap, .bool true, .bool false, σ 0, (.slice (some ⟨g, off, none⟩) xs.length cap), σ 2, σ 3, σ 4, σ 5, σ 6, σ 7, σ 8, σ 9, σ 10, σ 11, undef], []⟩) (by simp only [f1]) rfl (fun _ => rfl) (fun K hK => ?_)
      go_simp
      exact hK _ _ (Below.refl _ _) rfl
    · skip
      have f2 : whF _ _ _ _ _ _ 2 σ c wr' := hd 2 (by decide) (by decide)
      simp only [whF] at f2
      clear hd
      refine StepF.of (a1 := ⟨#[.slice (some ⟨g, off, none⟩) xs.length cap, undef, .bool false, .bool false, .slice (some ⟨g, off, none⟩) xs.length cap, .bool true, .bool false, σ 0, σ 1, (.pointer (some ⟨g, off, none⟩)), σ 3, σ 4, σ 5, σ 6, σ 7, σ 8, σ 9, σ 10, σ 11, undef], []⟩) (by simp only [f2]) rfl (fun _ => rfl) (fun K hK => ?_)
      have c2 := (hb.cell (p := ⟨g, off, none⟩) (lt_of_cell c1)).trans c1
      go_simp
      exact hK _ _ (Below.refl _ _) rfl
    · skip
      have f3 : whF _ _ _ _ _ _ 3 σ c wr' := hd 3 (by decide) (by decide)
      simp only [whF] at f3
      clear hd
      refine StepF.of (a1 := ⟨#[.slice (some ⟨g, off, none⟩) xs.length cap, undef, .bool false, .bool false, .slice (some ⟨g, off, none⟩) xs.length cap, .bool true, .bool false, σ 0, σ 1, σ 2, (.string z), σ 4, σ 5, σ 6, σ 7, σ 8, σ 9, σ 10, σ 11, undef], []⟩) (by simp only [f3]) rfl (fun _ => rfl) (fun K hK => ?_)
      go_simp
      exact hK _ _ (Below.refl _ _) rfl
    · skip
      have f0 : whF _ _ _ _ _ _ 0 σ c wr' := hd 0 (by decide) (by decide)
      simp only [whF] at f0
      have f4 : whF _ _ _ _ _ _ 4 σ c wr' := hd 4 (by decide) (by decide)
      simp only [whF] at f4
      clear hd
      refine StepF.of (a1 := ⟨#[.slice (some ⟨g, off, none⟩) xs.length cap, undef, .bool false, .bool false, .slice (some ⟨g, off, none⟩) xs.length cap, .bool true, .bool false, (.slice (some ⟨g, off, none⟩) xs.length cap), σ 1, σ 2, σ 3, (.int .i64 (n : Nat)), σ 5, σ 6, σ 7, σ 8, σ 9, σ 10, σ 11, undef], []⟩) (by simp only [f0, f4]) rfl (fun _ => rfl) (fun K hK => ?_)
      go_simp
      refine (sxor_any _ xs n _ (HR.out.below (BW.out.trans (hb.mono BW.out.size))) h2 HN.out).mono ?_
      rintro e w2 ⟨rfl, b⟩
      exact hK _ w2 b (by rw [HX.out]; rfl)
    · skip
      clear hd
      refine StepF.of (a1 := ⟨#[.slice (some ⟨g, off, none⟩) xs.length cap, undef, .bool false, .bool false, .slice (some ⟨g, off, none⟩) xs.length cap, .bool true, .bool false, σ 0, σ 1, σ 2, σ 3, σ 4, σ 5, σ 6, σ 7, σ 8, σ 9, σ 10, σ 11, undef], []⟩) rfl rfl (fun _ => rfl) (fun K hK => ?_)
      go_simp
      exact hK _ _ (Below.refl _ _) rfl
    · skip
      have f6 : whF _ _ _ _ _ _ 6 σ c wr' := hd 6 (by decide) (by decide)
      simp only [whF] at f6
      clear hd
      refine StepF.of (a1 := ⟨#[.slice (some ⟨g, off, none⟩) xs.length cap, undef, .bool false, .bool false, .slice (some ⟨g, off, none⟩) xs.length cap, .bool true, .bool false, σ 0, σ 1, σ 2, σ 3, σ 4, σ 5, (.slice (some ⟨g, off, none⟩) xs.length cap), σ 7, σ 8, σ 9, σ 10, σ 11, undef], []⟩) (by simp only [f6]) rfl (fun _ => rfl) (fun K hK => ?_)
      go_simp
      exact hK _ _ (Below.refl _ _) rfl
    · skip
      have f7 : whF _ _ _ _ _ _ 7 σ c wr' := hd 7 (by decide) (by decide)
      simp only [whF] at f7
      clear hd
      refine StepF.of (a1 := ⟨#[.slice (some ⟨g, off, none⟩) xs.length cap, undef, .bool false, .bool false, .slice (some ⟨g, off, none⟩) xs.length cap, .bool true, .bool false, σ 0, σ 1, σ 2, σ 3, σ 4, σ 5, σ 6, (.pointer (some ⟨g, off, none⟩)), σ 8, σ 9, σ 10, σ 11, undef], []⟩) (by simp only [f7]) rfl (fun _ => rfl) (fun K hK => ?_)
      have c2 := (hb.cell (p := ⟨g, off, none⟩) (lt_of_cell c1)).trans c1
      go_simp
      exact hK _ _ (Below.refl _ _) rfl
    · skip
      have f8 : whF _ _ _ _ _ _ 8 σ c wr' := hd 8 (by decide) (by decide)
      simp only [whF] at f8
      clear hd
      refine StepF.of (a1 := ⟨#[.slice (some ⟨g, off, none⟩) xs.length cap, undef, .bool false, .bool false, .slice (some ⟨g, off, none⟩) xs.length cap, .bool true, .bool false, σ 0, σ 1, σ 2, σ 3, σ 4, σ 5, σ 6, σ 7, (.string z), σ 9, σ 10, σ 11, undef], []⟩) (by simp only [f8]) rfl (fun _ => rfl) (fun K hK => ?_)
      go_simp
      exact hK _ _ (Below.refl _ _) rfl
    · skip
      have f9 : whF _ _ _ _ _ _ 9 σ c wr' := hd 9 (by decide) (by decide)
      simp only [whF] at f9
      clear hd
      refine StepF.of (a1 := ⟨#[.slice (some ⟨g, off, none⟩) xs.length cap, undef, .bool false, .bool false, .slice (some ⟨g, off, none⟩) xs.length cap, .bool true, .bool false, σ 0, σ 1, σ 2, σ 3, σ 4, σ 5, σ 6, σ 7, σ 8, (.int .i64 (n : Nat)), σ 10, σ 11, undef], []⟩) (by simp only [f9]) rfl (fun _ => rfl) (fun K hK => ?_)
      go_simp
      exact hK _ _ ((Below.refl _ _).alloc (Nat.le_refl _) _) ⟨_, rfl, World.rowIs_made _ (.int .u8 0) n 5⟩
    · skip
      have f10 : whF _ _ _ _ _ _ 10 σ c wr' := hd 10 (by decide) (by decide)
      obtain ⟨b10, f10, hs10⟩ := f10
      clear hd
      refine StepF.of (a1 := ⟨#[.slice (some ⟨g, off, none⟩) xs.length cap, undef, .bool false, .bool false, .slice (some ⟨g, off, none⟩) xs.length cap, .bool true, .bool false, σ 0, σ 1, σ 2, σ 3, σ 4, σ 5, σ 6, σ 7, σ 8, σ 9, (.slice (some ⟨b10, 0, none⟩) n n), σ 11, undef], []⟩) (by simp only [f10]) rfl (fun _ => rfl) (fun K hK => ?_)
      have hcv := conv_row wr' b10 n (List.replicate n 0) (fun j hj => by rw [hs10.cell (by simpa using hj), zrow_get]; rfl)
      rw [List.length_replicate, ← HZ.out] at hcv
      go_simp
      exact hK _ _ (Below.refl _ _) rfl
end Go.Proofs.Ytijojdempijhbad
