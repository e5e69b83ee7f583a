/-
  The law FnExactIsFairer answers true at every argument, where both sides tell alike.
-/
import Derived.Test.YtepnhbicmlfnhahKSharesArg
import Derived.Test.YtepnhbicmlfnhahKSharesEq
import Derived.Test.YtepnhbicmlfnhahKSharesSz
import Derived.Test.YtepnhbicmlfnhahKSharesTo
import Derived.Test.YtepnhbicmlfnhahKOwnS
import Derived.Test.YtepnhbicmlfnhahRegFacts
namespace Go.Proofs.Ytepnhbicmlfnhah
open Go.RowKit

/-- What the operations make. -/
def isf8 (v0 v1 : Value) (D0 D1 : ShD) (r0 r1 : Bool) : Nat → (Nat → Value) → (Nat → Nat × Nat) → World → Prop
  | 0, σ, _, _ => σ 0 = v0
  | 1, σ, _, w => (ShReads w (σ 1) D0) ∧ ∃ a n k z, σ 1 = .agg #[.slice a n k, .int .i64 z]
  | 2, σ, _, _ => σ 2 = v1
  | 3, σ, _, w => (ShReads w (σ 3) D1) ∧ ∃ a n k z, σ 3 = .agg #[.slice a n k, .int .i64 z]
  | 4, σ, _, _ => σ 4 = .tuple #[.bool r0, .bool r1]
  | 5, σ, _, _ => σ 5 = .tuple #[.bool r0, .bool r1]
  | 6, σ, _, _ => σ 6 = .bool r0
  | 7, σ, _, _ => σ 7 = .bool r1
  | 8, σ, _, _ => σ 8 = .bool r0
  | _, _, _, _ => True
theorem isf8_keep {v0 v1 : Value} {D0 D1 : ShD} {r0 r1 : Bool} : ∀ j ∈ [0, 1, 2, 3, 4, 5, 6, 7, 8], ∀ σ c w w', isf8 v0 v1 D0 D1 r0 r1 j σ c w → Below w.heap.size w w' → isf8 v0 v1 D0 D1 r0 r1 j σ c w' := by
  intro j hj σ c w w' h hb
  simp only [List.mem_cons, List.not_mem_nil, or_false] at hj; rcases hj with rfl | rfl | rfl | rfl | rfl | rfl | rfl | rfl | rfl
  · exact h
  · exact ⟨h.1.below hb, h.2⟩
  · exact h
  · exact ⟨h.1.below hb, h.2⟩
  · exact h
  · exact h
  · exact h
  · exact h
  · exact h
theorem isf8_loc {v0 v1 : Value} {D0 D1 : ShD} {r0 r1 : Bool} {j i : Nat} {σ : Nat → Value} {c : Nat → Nat × Nat} {w : World} {v : Value} {r : Nat × Nat} (hj : j ∈ [0, 1, 2, 3, 4, 5, 6, 7, 8]) (hne : i ≠ j) (_hd : True) (h : isf8 v0 v1 D0 D1 r0 r1 j σ c w) : isf8 v0 v1 D0 D1 r0 r1 j (upd σ i v) (upd c i r) w := by
  simp only [List.mem_cons, List.not_mem_nil, or_false] at hj; rcases hj with rfl | rfl | rfl | rfl | rfl | rfl | rfl | rfl | rfl
  · simp only [isf8, upd_other _ _ (Ne.symm hne)] at h ⊢
    exact h
  · simp only [isf8, upd_other _ _ (Ne.symm hne)] at h ⊢
    exact h
  · simp only [isf8, upd_other _ _ (Ne.symm hne)] at h ⊢
    exact h
  · simp only [isf8, upd_other _ _ (Ne.symm hne)] at h ⊢
    exact h
  · simp only [isf8, upd_other _ _ (Ne.symm hne)] at h ⊢
    exact h
  · simp only [isf8, upd_other _ _ (Ne.symm hne)] at h ⊢
    exact h
  · simp only [isf8, upd_other _ _ (Ne.symm hne)] at h ⊢
    exact h
  · simp only [isf8, upd_other _ _ (Ne.symm hne)] at h ⊢
    exact h
  · simp only [isf8, upd_other _ _ (Ne.symm hne)] at h ⊢
    exact h
/-- What the operations make. -/
def isf14 (vx v0 : Value) (D : ShD) : Nat → (Nat → Value) → (Nat → Nat × Nat) → World → Prop
  | 0, σ, _, _ => σ 0 = vx
  | 1, σ, _, _ => σ 1 = v0
  | 2, σ, _, w => (ShReads w (σ 2) D) ∧ ∃ a n k z, σ 2 = .agg #[.slice a n k, .int .i64 z]
  | 3, σ, _, _ => σ 3 = .bool true
  | _, _, _, _ => True
theorem isf14_keep {vx v0 : Value} {D : ShD} : ∀ j ∈ [0, 1, 2, 3], ∀ σ c w w', isf14 vx v0 D j σ c w → Below w.heap.size w w' → isf14 vx v0 D j σ c w' := by
  intro j hj σ c w w' h hb
  simp only [List.mem_cons, List.not_mem_nil, or_false] at hj; rcases hj with rfl | rfl | rfl | rfl
  · exact h
  · exact h
  · exact ⟨h.1.below hb, h.2⟩
  · exact h
theorem isf14_loc {vx v0 : Value} {D : ShD} {j i : Nat} {σ : Nat → Value} {c : Nat → Nat × Nat} {w : World} {v : Value} {r : Nat × Nat} (hj : j ∈ [0, 1, 2, 3]) (hne : i ≠ j) (_hd : True) (h : isf14 vx v0 D j σ c w) : isf14 vx v0 D j (upd σ i v) (upd c i r) w := by
  simp only [List.mem_cons, List.not_mem_nil, or_false] at hj; rcases hj with rfl | rfl | rfl | rfl
  · simp only [isf14, upd_other _ _ (Ne.symm hne)] at h ⊢
    exact h
  · simp only [isf14, upd_other _ _ (Ne.symm hne)] at h ⊢
    exact h
  · simp only [isf14, upd_other _ _ (Ne.symm hne)] at h ⊢
    exact h
  · simp only [isf14, upd_other _ _ (Ne.symm hne)] at h ⊢
    exact h
/-- What the operations make. -/
def isf16 (vx v0 : Value) (D : ShD) : Nat → (Nat → Value) → (Nat → Nat × Nat) → World → Prop
  | 0, σ, _, _ => σ 0 = vx
  | 1, σ, _, _ => σ 1 = v0
  | 2, σ, _, w => (ShReads w (σ 2) D) ∧ ∃ a n k z, σ 2 = .agg #[.slice a n k, .int .i64 z]
  | 3, σ, _, _ => σ 3 = .bool true
  | _, _, _, _ => True
theorem isf16_keep {vx v0 : Value} {D : ShD} : ∀ j ∈ [0, 1, 2, 3], ∀ σ c w w', isf16 vx v0 D j σ c w → Below w.heap.size w w' → isf16 vx v0 D j σ c w' := by
  intro j hj σ c w w' h hb
  simp only [List.mem_cons, List.not_mem_nil, or_false] at hj; rcases hj with rfl | rfl | rfl | rfl
  · exact h
  · exact h
  · exact ⟨h.1.below hb, h.2⟩
  · exact h
theorem isf16_loc {vx v0 : Value} {D : ShD} {j i : Nat} {σ : Nat → Value} {c : Nat → Nat × Nat} {w : World} {v : Value} {r : Nat × Nat} (hj : j ∈ [0, 1, 2, 3]) (hne : i ≠ j) (_hd : True) (h : isf16 vx v0 D j σ c w) : isf16 vx v0 D j (upd σ i v) (upd c i r) w := by
  simp only [List.mem_cons, List.not_mem_nil, or_false] at hj; rcases hj with rfl | rfl | rfl | rfl
  · simp only [isf16, upd_other _ _ (Ne.symm hne)] at h ⊢
    exact h
  · simp only [isf16, upd_other _ _ (Ne.symm hne)] at h ⊢
    exact h
  · simp only [isf16, upd_other _ _ (Ne.symm hne)] at h ⊢
    exact h
  · simp only [isf16, upd_other _ _ (Ne.symm hne)] at h ⊢
    exact h
set_option maxRecDepth 100000 in
set_option maxHeartbeats 16000000 in
theorem FnExactIsFairer_law (v0 v1 : Value) (D0 D1 : ShD) (w : World) (h0 : ShArg w v0 D0) (h1 : ShArg w v1 D1) (r0 r1 : Bool)
    (HS : ∀ (v u : Value) (w : World), ShReads w v D0 → ShReads w u D1 → Calls Try.prog 5 #[v, u] w fun e w' => e = .returned (.tuple #[.bool r0, .bool r1]) ∧ Below w.heap.size w w')
    (HI : ∀ (v u : Value) (w : World), ShReads w v D0 → ShReads w u D1 → Calls Try.prog 7 #[v, u] w fun e w' => e = .returned (.tuple #[.bool r0, .bool r1]) ∧ Below w.heap.size w w') :
    Calls Try.prog 3 #[v0, v1] w fun e w' => e = .returned (.bool true) ∧ Below w.heap.size w w' := by
  have HS' := hid HS
  have HI' := hid HI
  clear HS HI
  obtain ⟨a0, rfl, _⟩ := id h0
  obtain ⟨a1, rfl, _⟩ := id h1
  have HA0 := hid h0
  have HA1 := hid h1
  clear h0 h1
  have B : Hid (Below w.heap.size w w) := Below.refl _ _
  obtain ⟨V0, hV⟩ : ∃ V, V = w.alloc (.cells #[a0, .int .i64 D0.f1] 24) := ⟨_, rfl⟩
  have b : Below w.heap.size w V0 := by rw [hV]; exact (Below.refl _ _).alloc (Nat.le_refl _) _
  replace B : Hid (Below w.heap.size w V0) := B.out.trans (b.mono B.out.size)
  have BA : Hid (BoxL V0 w.heap.size [a0, .int .i64 D0.f1]) := by rw [hV]; exact boxL_new _ _ _
  clear b
  have HV0 := hid hV
  clear hV
  obtain ⟨V1, hV⟩ : ∃ V, V = V0.alloc (.cells #[a1, .int .i64 D1.f1] 24) := ⟨_, rfl⟩
  have b : Below V0.heap.size V0 V1 := by rw [hV]; exact (Below.refl _ _).alloc (Nat.le_refl _) _
  replace BA := hid (BA.out.below b BA.out.lt)
  replace B : Hid (Below w.heap.size w V1) := B.out.trans (b.mono B.out.size)
  have BB : Hid (BoxL V1 V0.heap.size [a1, .int .i64 D1.f1]) := by rw [hV]; exact boxL_new _ _ _
  clear b
  have hs0 : V0.heap.size = w.heap.size + 1 := by rw [HV0.out]; exact World.size_alloc _ _
  rw [hs0] at BB
  rw [HV0.out] at hV
  have HV1 := hid hV
  clear hV hs0
  go_enter Try.func3, Try.ntmps3
  obtain ⟨q0_0, q0_1⟩ := BA.out.two
  obtain ⟨q1_0, q1_1⟩ := BB.out.two
  rw [HV1.out] at q0_0 q0_1 q1_0 q1_1
  go_wp2_with fail
  rw [← HV1.out]
  clear HV1 q0_0 q0_1 q1_0 q1_1
  refine (szShares_any _ D0 _ (HA0.out.below B.out) 1048576 (by omega) (by omega)).mono ?_
  rintro e w1 ⟨l1, rfl, hl, b⟩
  replace BA := hid (BA.out.below b BA.out.lt)
  replace BB := hid (BB.out.below b BB.out.lt)
  replace B : Hid (Below w.heap.size w w1) := B.out.trans (b.mono B.out.size)
  clear b
  by_cases hneg : l1 < 0
  · have hd : decide (l1 < 0) = true := by rw [decide_eq_true_eq]; exact hneg
    go_wp2
    go_ret
    exact ⟨rfl, B.out⟩
  have hd : decide (l1 < 0) = false := by rw [decide_eq_false_iff_not]; exact hneg
  have htot0 : shTot D0 ≤ 1048576 := by have := hl.2.1 (by omega); omega
  have hl1b : l1 ≤ 1048576 := by omega
  clear hl
  obtain ⟨q0_0, q0_1⟩ := BA.out.two
  obtain ⟨q1_0, q1_1⟩ := BB.out.two
  go_wp2_with fail
  refine (szShares_any _ D1 _ (HA1.out.below B.out) l1 (by omega) (by omega)).mono ?_
  rintro e w2 ⟨l2, rfl, hl, b⟩
  clear q0_0 q0_1 q1_0 q1_1
  replace BA := hid (BA.out.below b BA.out.lt)
  replace BB := hid (BB.out.below b BB.out.lt)
  replace B : Hid (Below w.heap.size w w2) := B.out.trans (b.mono B.out.size)
  clear b
  by_cases hneg2 : l2 < 0
  · have hd2 : decide (l2 < 0) = true := by rw [decide_eq_true_eq]; exact hneg2
    go_wp2
    go_ret
    exact ⟨rfl, B.out⟩
  have hd2 : decide (l2 < 0) = false := by rw [decide_eq_false_iff_not]; exact hneg2
  have htot1 : shTot D1 ≤ 1048576 := by have := hl.2.1 (by omega); omega
  clear hl
  have HR0 := hid (HA0.out.reads htot0)
  have HR1 := hid (HA1.out.reads htot1)
  have hN0 : shN D0 ≤ 1048576 := by unfold shTot at htot0; unfold shN; omega
  have hN1 : shN D1 ≤ 1048576 := by unfold shTot at htot1; unfold shN; omega
  clear htot0 htot1 HA0 HA1 hneg hneg2
  obtain ⟨q0_0, q0_1⟩ := BA.out.two
  obtain ⟨q1_0, q1_1⟩ := BB.out.two
  go_wp2_with fail
  clear q0_0 q0_1 q1_0 q1_1
  refine wp_region_any (by kernel_rfl) ?_
  change wpAny _ _ _ _ _ _ _ (World.drew _)
  obtain ⟨w3, hW⟩ : ∃ W, W = World.drew w2 := ⟨_, rfl⟩
  have b : Below w2.heap.size w2 w3 := by rw [hW]; exact (Below.refl _ _).drew
  replace BA := hid (BA.out.below b BA.out.lt)
  replace BB := hid (BB.out.below b BB.out.lt)
  replace B : Hid (Below w.heap.size w w3) := B.out.trans (b.mono B.out.size)
  rw [← hW]
  clear hW b
  refine wpAny_facts' 1 (Array.replicate 10 false) #[true, true, true, true, true, true, true, true, true, false] [0, 1, 2, 3, 4, 5, 6, 7, 8] (fun σ => #[.agg #[a0, .int .i64 D0.f1], .agg #[a1, .int .i64 D1.f1], .pointer (some ⟨w.heap.size, 0, none⟩), .pointer (some ⟨w.heap.size + 1, 0, none⟩), .bool false, .int .i64 l2, σ 8, undef, undef, undef, undef, undef, .agg #[a0, .int .i64 D0.f1], .int .i64 1048576, .int .i64 l1, .int .i64 l1, .bool false, .agg #[a1, .int .i64 D1.f1], .int .i64 l1, .int .i64 l2, .int .i64 l2, .bool false, σ 5, σ 0, σ 1, σ 2, σ 3, σ 4, σ 6, σ 7, undef, undef, undef, undef, undef, undef, undef, undef, undef, undef, undef, undef, undef, undef, undef, undef, undef, undef, undef, undef, undef, undef, undef, undef, undef, undef, undef, undef]) (isf8 (.agg #[a0, .int .i64 D0.f1]) (.agg #[a1, .int .i64 D1.f1]) D0 D1 r0 r1) (fun _ => undef) rfl (by kernel_rfl) (by kernel_rfl) (by kernel_rfl) (by kernel_rfl) (by decide) isf8_keep (fun j hj i hi σ c w v r hne hd h => isf8_loc hj hne trivial h) ?_ ?_
  rotate_left
  · intro i hi σ c wr' hb hd
    simp only [List.mem_cons, List.not_mem_nil, or_false] at hi; rcases hi with rfl | rfl | rfl | rfl | rfl | rfl | rfl | rfl | rfl
    · skip
      clear hd
      refine StepF.of (a1 := ⟨#[.agg #[a0, .int .i64 D0.f1], .agg #[a1, .int .i64 D1.f1], .pointer (some ⟨w.heap.size, 0, none⟩), .pointer (some ⟨w.heap.size + 1, 0, none⟩), .bool false, .int .i64 l2, σ 8, undef, undef, undef, undef, undef, .agg #[a0, .int .i64 D0.f1], .int .i64 1048576, .int .i64 l1, .int .i64 l1, .bool false, .agg #[a1, .int .i64 D1.f1], .int .i64 l1, .int .i64 l2, .int .i64 l2, .bool false, σ 5, σ 0, σ 1, σ 2, σ 3, σ 4, σ 6, σ 7, undef, undef, undef, undef, undef, undef, undef, undef, undef, undef, undef, undef, undef, undef, undef, undef, undef, undef, undef, undef, undef, undef, undef, undef, undef, undef, undef, undef], []⟩) rfl rfl (fun _ => rfl) (fun K hK => ?_)
      obtain ⟨c0, c1⟩ := (BA.out.below hb BA.out.lt).two
      go_simp
      exact hK _ _ (Below.refl _ _) rfl
    · skip
      have f0 : isf8 _ _ _ _ _ _ 0 σ c wr' := hd 0 (by decide) (by decide)
      simp only [isf8] at f0
      clear hd
      refine StepF.of (a1 := ⟨#[.agg #[a0, .int .i64 D0.f1], .agg #[a1, .int .i64 D1.f1], .pointer (some ⟨w.heap.size, 0, none⟩), .pointer (some ⟨w.heap.size + 1, 0, none⟩), .bool false, .int .i64 l2, σ 8, undef, undef, undef, undef, undef, .agg #[a0, .int .i64 D0.f1], .int .i64 1048576, .int .i64 l1, .int .i64 l1, .bool false, .agg #[a1, .int .i64 D1.f1], .int .i64 l1, .int .i64 l2, .int .i64 l2, .bool false, σ 5, (.agg #[a0, .int .i64 D0.f1]), σ 1, σ 2, σ 3, σ 4, σ 6, σ 7, undef, undef, undef, undef, undef, undef, undef, undef, undef, undef, undef, undef, undef, undef, undef, undef, undef, undef, undef, undef, undef, undef, undef, undef, undef, undef, undef, undef], []⟩) (by simp only [f0]) rfl (fun _ => rfl) (fun K hK => ?_)
      go_simp
      refine (toShares_any _ D0 _ (HR0.out.below (B.out.trans (hb.mono B.out.size))) hN0).mono ?_
      rintro e w5 ⟨u, rfl, ou, b⟩
      exact hK u w5 b ⟨ou.reads, by obtain ⟨x1, x2, x3, e⟩ := ou.form; exact ⟨x1, x2, x3, _, e⟩⟩
    · skip
      clear hd
      refine StepF.of (a1 := ⟨#[.agg #[a0, .int .i64 D0.f1], .agg #[a1, .int .i64 D1.f1], .pointer (some ⟨w.heap.size, 0, none⟩), .pointer (some ⟨w.heap.size + 1, 0, none⟩), .bool false, .int .i64 l2, σ 8, undef, undef, undef, undef, undef, .agg #[a0, .int .i64 D0.f1], .int .i64 1048576, .int .i64 l1, .int .i64 l1, .bool false, .agg #[a1, .int .i64 D1.f1], .int .i64 l1, .int .i64 l2, .int .i64 l2, .bool false, σ 5, σ 0, σ 1, σ 2, σ 3, σ 4, σ 6, σ 7, undef, undef, undef, undef, undef, undef, undef, undef, undef, undef, undef, undef, undef, undef, undef, undef, undef, undef, undef, undef, undef, undef, undef, undef, undef, undef, undef, undef], []⟩) rfl rfl (fun _ => rfl) (fun K hK => ?_)
      obtain ⟨c0, c1⟩ := (BB.out.below hb BB.out.lt).two
      go_simp
      exact hK _ _ (Below.refl _ _) rfl
    · skip
      have f2 : isf8 _ _ _ _ _ _ 2 σ c wr' := hd 2 (by decide) (by decide)
      simp only [isf8] at f2
      clear hd
      refine StepF.of (a1 := ⟨#[.agg #[a0, .int .i64 D0.f1], .agg #[a1, .int .i64 D1.f1], .pointer (some ⟨w.heap.size, 0, none⟩), .pointer (some ⟨w.heap.size + 1, 0, none⟩), .bool false, .int .i64 l2, σ 8, undef, undef, undef, undef, undef, .agg #[a0, .int .i64 D0.f1], .int .i64 1048576, .int .i64 l1, .int .i64 l1, .bool false, .agg #[a1, .int .i64 D1.f1], .int .i64 l1, .int .i64 l2, .int .i64 l2, .bool false, σ 5, σ 0, σ 1, (.agg #[a1, .int .i64 D1.f1]), σ 3, σ 4, σ 6, σ 7, undef, undef, undef, undef, undef, undef, undef, undef, undef, undef, undef, undef, undef, undef, undef, undef, undef, undef, undef, undef, undef, undef, undef, undef, undef, undef, undef, undef], []⟩) (by simp only [f2]) rfl (fun _ => rfl) (fun K hK => ?_)
      go_simp
      refine (toShares_any _ D1 _ (HR1.out.below (B.out.trans (hb.mono B.out.size))) hN1).mono ?_
      rintro e w5 ⟨u, rfl, ou, b⟩
      exact hK u w5 b ⟨ou.reads, by obtain ⟨x1, x2, x3, e⟩ := ou.form; exact ⟨x1, x2, x3, _, e⟩⟩
    · skip
      have f1 : isf8 _ _ _ _ _ _ 1 σ c wr' := hd 1 (by decide) (by decide)
      obtain ⟨g1, a1_, m1, q1, z1, f1⟩ := f1; rw [f1] at g1
      have f3 : isf8 _ _ _ _ _ _ 3 σ c wr' := hd 3 (by decide) (by decide)
      obtain ⟨g3, a3_, m3, q3, z3, f3⟩ := f3; rw [f3] at g3
      clear hd
      refine StepF.of (a1 := ⟨#[.agg #[a0, .int .i64 D0.f1], .agg #[a1, .int .i64 D1.f1], .pointer (some ⟨w.heap.size, 0, none⟩), .pointer (some ⟨w.heap.size + 1, 0, none⟩), .bool false, .int .i64 l2, σ 8, undef, undef, undef, undef, undef, .agg #[a0, .int .i64 D0.f1], .int .i64 1048576, .int .i64 l1, .int .i64 l1, .bool false, .agg #[a1, .int .i64 D1.f1], .int .i64 l1, .int .i64 l2, .int .i64 l2, .bool false, σ 5, σ 0, (.agg #[.slice a1_ m1 q1, .int .i64 z1]), σ 2, (.agg #[.slice a3_ m3 q3, .int .i64 z3]), σ 4, σ 6, σ 7, undef, undef, undef, undef, undef, undef, undef, undef, undef, undef, undef, undef, undef, undef, undef, undef, undef, undef, undef, undef, undef, undef, undef, undef, undef, undef, undef, undef], []⟩) (by simp only [f1, f3]) rfl (fun _ => rfl) (fun K hK => ?_)
      go_simp
      refine (HS'.out _ _ _ g1 g3).mono ?_
      rintro e w5 ⟨rfl, b⟩
      exact hK _ w5 b rfl
    · skip
      have f4 : isf8 _ _ _ _ _ _ 4 σ c wr' := hd 4 (by decide) (by decide)
      simp only [isf8] at f4
      clear hd
      refine StepF.of (a1 := ⟨#[.agg #[a0, .int .i64 D0.f1], .agg #[a1, .int .i64 D1.f1], .pointer (some ⟨w.heap.size, 0, none⟩), .pointer (some ⟨w.heap.size + 1, 0, none⟩), .bool false, .int .i64 l2, σ 8, undef, undef, undef, undef, undef, .agg #[a0, .int .i64 D0.f1], .int .i64 1048576, .int .i64 l1, .int .i64 l1, .bool false, .agg #[a1, .int .i64 D1.f1], .int .i64 l1, .int .i64 l2, .int .i64 l2, .bool false, σ 5, σ 0, σ 1, σ 2, σ 3, (.tuple #[.bool r0, .bool r1]), σ 6, σ 7, undef, undef, undef, undef, undef, undef, undef, undef, undef, undef, undef, undef, undef, undef, undef, undef, undef, undef, undef, undef, undef, undef, undef, undef, undef, undef, undef, undef], []⟩) (by simp only [f4]) rfl (fun _ => rfl) (fun K hK => ?_)
      go_simp
      exact hK _ _ (Below.refl _ _) rfl
    · skip
      have f5 : isf8 _ _ _ _ _ _ 5 σ c wr' := hd 5 (by decide) (by decide)
      simp only [isf8] at f5
      clear hd
      refine StepF.of (a1 := ⟨#[.agg #[a0, .int .i64 D0.f1], .agg #[a1, .int .i64 D1.f1], .pointer (some ⟨w.heap.size, 0, none⟩), .pointer (some ⟨w.heap.size + 1, 0, none⟩), .bool false, .int .i64 l2, σ 8, undef, undef, undef, undef, undef, .agg #[a0, .int .i64 D0.f1], .int .i64 1048576, .int .i64 l1, .int .i64 l1, .bool false, .agg #[a1, .int .i64 D1.f1], .int .i64 l1, .int .i64 l2, .int .i64 l2, .bool false, (.tuple #[.bool r0, .bool r1]), σ 0, σ 1, σ 2, σ 3, σ 4, σ 6, σ 7, undef, undef, undef, undef, undef, undef, undef, undef, undef, undef, undef, undef, undef, undef, undef, undef, undef, undef, undef, undef, undef, undef, undef, undef, undef, undef, undef, undef], []⟩) (by simp only [f5]) rfl (fun _ => rfl) (fun K hK => ?_)
      go_simp
      exact hK _ _ (Below.refl _ _) rfl
    · skip
      have f5 : isf8 _ _ _ _ _ _ 5 σ c wr' := hd 5 (by decide) (by decide)
      simp only [isf8] at f5
      clear hd
      refine StepF.of (a1 := ⟨#[.agg #[a0, .int .i64 D0.f1], .agg #[a1, .int .i64 D1.f1], .pointer (some ⟨w.heap.size, 0, none⟩), .pointer (some ⟨w.heap.size + 1, 0, none⟩), .bool false, .int .i64 l2, σ 8, undef, undef, undef, undef, undef, .agg #[a0, .int .i64 D0.f1], .int .i64 1048576, .int .i64 l1, .int .i64 l1, .bool false, .agg #[a1, .int .i64 D1.f1], .int .i64 l1, .int .i64 l2, .int .i64 l2, .bool false, (.tuple #[.bool r0, .bool r1]), σ 0, σ 1, σ 2, σ 3, σ 4, σ 6, σ 7, undef, undef, undef, undef, undef, undef, undef, undef, undef, undef, undef, undef, undef, undef, undef, undef, undef, undef, undef, undef, undef, undef, undef, undef, undef, undef, undef, undef], []⟩) (by simp only [f5]) rfl (fun _ => rfl) (fun K hK => ?_)
      go_simp
      exact hK _ _ (Below.refl _ _) rfl
    · skip
      have f6 : isf8 _ _ _ _ _ _ 6 σ c wr' := hd 6 (by decide) (by decide)
      simp only [isf8] at f6
      clear hd
      refine StepF.of (a1 := ⟨#[.agg #[a0, .int .i64 D0.f1], .agg #[a1, .int .i64 D1.f1], .pointer (some ⟨w.heap.size, 0, none⟩), .pointer (some ⟨w.heap.size + 1, 0, none⟩), .bool false, .int .i64 l2, σ 8, undef, undef, undef, undef, undef, .agg #[a0, .int .i64 D0.f1], .int .i64 1048576, .int .i64 l1, .int .i64 l1, .bool false, .agg #[a1, .int .i64 D1.f1], .int .i64 l1, .int .i64 l2, .int .i64 l2, .bool false, σ 5, σ 0, σ 1, σ 2, σ 3, σ 4, (.bool r0), σ 7, undef, undef, undef, undef, undef, undef, undef, undef, undef, undef, undef, undef, undef, undef, undef, undef, undef, undef, undef, undef, undef, undef, undef, undef, undef, undef, undef, undef], []⟩) (by simp only [f6]) rfl (fun _ => rfl) (fun K hK => ?_)
      go_simp
      exact hK _ _ (Below.refl _ _) rfl
  intro σ c w7 b hf _ _
  have e0 : isf8 _ _ _ _ _ _ 0 σ c w7 := hf 0 (by decide)
  have e2 : isf8 _ _ _ _ _ _ 2 σ c w7 := hf 2 (by decide)
  have e4 : isf8 _ _ _ _ _ _ 4 σ c w7 := hf 4 (by decide)
  have e5 : isf8 _ _ _ _ _ _ 5 σ c w7 := hf 5 (by decide)
  have e6 : isf8 _ _ _ _ _ _ 6 σ c w7 := hf 6 (by decide)
  have e7 : isf8 _ _ _ _ _ _ 7 σ c w7 := hf 7 (by decide)
  have e8 : isf8 _ _ _ _ _ _ 8 σ c w7 := hf 8 (by decide)
  obtain ⟨_, a1_, m1, q1, z1, e1⟩ : isf8 _ _ _ _ _ _ 1 σ c w7 := hf 1 (by decide)
  obtain ⟨_, a3_, m3, q3, z3, e3⟩ : isf8 _ _ _ _ _ _ 3 σ c w7 := hf 3 (by decide)
  simp only [isf8] at e0 e2 e4 e5 e6 e7 e8
  clear hf
  try dsimp only
  rw [e0, e1, e2, e3, e4, e5, e6, e7, e8]
  clear e0 e1 e2 e3 e4 e5 e6 e7 e8
  replace BA := hid (BA.out.below b BA.out.lt)
  replace BB := hid (BB.out.below b BB.out.lt)
  replace B : Hid (Below w.heap.size w w7) := B.out.trans (b.mono B.out.size)
  clear b
  refine wpAny_ready (rs := [9]) (by kernel_rfl) (by simp) ?_
  refine AllReady.cons rfl (fun K hK => ?_) AllReady.nil
  go_simp
  refine hK _ _ ?_
  clear hK K
  refine wpAny_done (by kernel_rfl) ?_ _
  obtain ⟨q0_0, q0_1⟩ := BA.out.two
  obtain ⟨q1_0, q1_1⟩ := BB.out.two
  go_wp2_with fail
  refine (toShares_any _ D0 _ (HR0.out.below B.out) hN0).mono ?_
  rintro e w8 ⟨t8, rfl, o, b⟩
  clear q0_0 q0_1 q1_0 q1_1
  replace BA := hid (BA.out.below b BA.out.lt)
  replace BB := hid (BB.out.below b BB.out.lt)
  replace B : Hid (Below w.heap.size w w8) := B.out.trans (b.mono B.out.size)
  clear b
  obtain ⟨xa, xn, xk, rfl⟩ := o.form
  have X0 := hid o
  clear o
  obtain ⟨V8, hV⟩ : ∃ V, V = w8.alloc (.cells #[.slice xa xn xk, .int .i64 D0.f1] 28) := ⟨_, rfl⟩
  have b : Below w8.heap.size w8 V8 := by rw [hV]; exact (Below.refl _ _).alloc (Nat.le_refl _) _
  replace X0 := hid (X0.out.below b)
  replace BA := hid (BA.out.below b BA.out.lt)
  replace BB := hid (BB.out.below b BB.out.lt)
  replace B : Hid (Below w.heap.size w V8) := B.out.trans (b.mono B.out.size)
  have BX : Hid (BoxL V8 w8.heap.size [.slice xa xn xk, .int .i64 D0.f1]) := by rw [hV]; exact boxL_new _ _ _
  clear b
  have HV8 := hid hV
  clear hV
  obtain ⟨q0_0, q0_1⟩ := BA.out.two
  obtain ⟨q1_0, q1_1⟩ := BB.out.two
  obtain ⟨q2_0, q2_1⟩ := BX.out.two
  rw [HV8.out] at q0_0 q0_1 q1_0 q1_1 q2_0 q2_1
  go_wp2_with fail
  rw [← HV8.out]
  clear q0_0 q0_1 q1_0 q1_1 q2_0 q2_1
  refine (toShares_any _ D1 _ (HR1.out.below B.out) hN1).mono ?_
  rintro e w9 ⟨t9, rfl, o, b⟩
  replace X0 := hid (X0.out.below b)
  replace BA := hid (BA.out.below b BA.out.lt)
  replace BB := hid (BB.out.below b BB.out.lt)
  replace BX := hid (BX.out.below b BX.out.lt)
  replace B : Hid (Below w.heap.size w w9) := B.out.trans (b.mono B.out.size)
  clear b HV8
  obtain ⟨ya, yn, yk, rfl⟩ := o.form
  have X1 := hid o
  clear o
  obtain ⟨V9, hV⟩ : ∃ V, V = w9.alloc (.cells #[.slice ya yn yk, .int .i64 D1.f1] 28) := ⟨_, rfl⟩
  have b : Below w9.heap.size w9 V9 := by rw [hV]; exact (Below.refl _ _).alloc (Nat.le_refl _) _
  replace X0 := hid (X0.out.below b)
  replace X1 := hid (X1.out.below b)
  replace BA := hid (BA.out.below b BA.out.lt)
  replace BB := hid (BB.out.below b BB.out.lt)
  replace BX := hid (BX.out.below b BX.out.lt)
  replace B : Hid (Below w.heap.size w V9) := B.out.trans (b.mono B.out.size)
  have BY : Hid (BoxL V9 w9.heap.size [.slice ya yn yk, .int .i64 D1.f1]) := by rw [hV]; exact boxL_new _ _ _
  clear b
  have HV9 := hid hV
  clear hV
  obtain ⟨q0_0, q0_1⟩ := BA.out.two
  obtain ⟨q1_0, q1_1⟩ := BB.out.two
  obtain ⟨q2_0, q2_1⟩ := BX.out.two
  obtain ⟨q3_0, q3_1⟩ := BY.out.two
  rw [HV9.out] at q0_0 q0_1 q1_0 q1_1 q2_0 q2_1 q3_0 q3_1
  go_wp2_with fail
  rw [← HV9.out]
  clear q0_0 q0_1 q1_0 q1_1 q2_0 q2_1 q3_0 q3_1
  refine (HI'.out _ _ _ X0.out.reads X1.out.reads).mono ?_
  rintro e w10 ⟨rfl, b⟩
  replace X0 := hid (X0.out.below b)
  replace X1 := hid (X1.out.below b)
  replace BA := hid (BA.out.below b BA.out.lt)
  replace BB := hid (BB.out.below b BB.out.lt)
  replace BX := hid (BX.out.below b BX.out.lt)
  replace BY := hid (BY.out.below b BY.out.lt)
  replace B : Hid (Below w.heap.size w w10) := B.out.trans (b.mono B.out.size)
  clear b HV9
  obtain ⟨q0_0, q0_1⟩ := BA.out.two
  obtain ⟨q1_0, q1_1⟩ := BB.out.two
  obtain ⟨q2_0, q2_1⟩ := BX.out.two
  obtain ⟨q3_0, q3_1⟩ := BY.out.two
  go_wp2_with fail
  clear q0_0 q0_1 q1_0 q1_1 q2_0 q2_1 q3_0 q3_1
  refine wp_region_any (by kernel_rfl) ?_
  change wpAny _ _ _ _ _ _ _ (World.drew _)
  obtain ⟨w11, hW⟩ : ∃ W, W = World.drew w10 := ⟨_, rfl⟩
  have b : Below w10.heap.size w10 w11 := by rw [hW]; exact (Below.refl _ _).drew
  replace X0 := hid (X0.out.below b)
  replace X1 := hid (X1.out.below b)
  replace BA := hid (BA.out.below b BA.out.lt)
  replace BB := hid (BB.out.below b BB.out.lt)
  replace BX := hid (BX.out.below b BX.out.lt)
  replace BY := hid (BY.out.below b BY.out.lt)
  replace B : Hid (Below w.heap.size w w11) := B.out.trans (b.mono B.out.size)
  rw [← hW]
  clear hW b
  refine wpAny_facts' 1 (Array.replicate 5 false) #[true, true, true, true, false] [0, 1, 2, 3] (fun σ => #[.agg #[a0, .int .i64 D0.f1], .agg #[a1, .int .i64 D1.f1], .pointer (some ⟨w.heap.size, 0, none⟩), .pointer (some ⟨w.heap.size + 1, 0, none⟩), .bool false, .int .i64 l2, .bool r0, .bool r1, .pointer (some ⟨w8.heap.size, 0, none⟩), .pointer (some ⟨w9.heap.size, 0, none⟩), .bool r0, .bool r1, .agg #[a0, .int .i64 D0.f1], .int .i64 1048576, .int .i64 l1, .int .i64 l1, .bool false, .agg #[a1, .int .i64 D1.f1], .int .i64 l1, .int .i64 l2, .int .i64 l2, .bool false, .tuple #[.bool r0, .bool r1], .agg #[a0, .int .i64 D0.f1], .agg #[.slice a1_ m1 q1, .int .i64 z1], .agg #[a1, .int .i64 D1.f1], .agg #[.slice a3_ m3 q3, .int .i64 z3], .tuple #[.bool r0, .bool r1], .bool r0, .bool r1, .agg #[a0, .int .i64 D0.f1], .agg #[.slice xa xn xk, .int .i64 D0.f1], .agg #[a1, .int .i64 D1.f1], .agg #[.slice ya yn yk, .int .i64 D1.f1], .tuple #[.bool r0, .bool r1], .agg #[.slice xa xn xk, .int .i64 D0.f1], .agg #[.slice ya yn yk, .int .i64 D1.f1], .tuple #[.bool r0, .bool r1], .bool r0, .bool r1, .bool r0, .bool r0, .bool false, .bool false, .bool r1, .bool r1, .bool false, .bool false, σ 0, σ 1, σ 2, σ 3, undef, undef, undef, undef, undef, undef]) (isf14 (.agg #[.slice xa xn xk, .int .i64 D0.f1]) (.agg #[a0, .int .i64 D0.f1]) D0) (fun _ => undef) rfl (by kernel_rfl) (by kernel_rfl) (by kernel_rfl) (by kernel_rfl) (by decide) isf14_keep (fun j hj i hi σ c w v r hne hd h => isf14_loc hj hne trivial h) ?_ ?_
  rotate_left
  · intro i hi σ c wr' hb hd
    simp only [List.mem_cons, List.not_mem_nil, or_false] at hi; rcases hi with rfl | rfl | rfl | rfl
    · skip
      clear hd
      refine StepF.of (a1 := ⟨#[.agg #[a0, .int .i64 D0.f1], .agg #[a1, .int .i64 D1.f1], .pointer (some ⟨w.heap.size, 0, none⟩), .pointer (some ⟨w.heap.size + 1, 0, none⟩), .bool false, .int .i64 l2, .bool r0, .bool r1, .pointer (some ⟨w8.heap.size, 0, none⟩), .pointer (some ⟨w9.heap.size, 0, none⟩), .bool r0, .bool r1, .agg #[a0, .int .i64 D0.f1], .int .i64 1048576, .int .i64 l1, .int .i64 l1, .bool false, .agg #[a1, .int .i64 D1.f1], .int .i64 l1, .int .i64 l2, .int .i64 l2, .bool false, .tuple #[.bool r0, .bool r1], .agg #[a0, .int .i64 D0.f1], .agg #[.slice a1_ m1 q1, .int .i64 z1], .agg #[a1, .int .i64 D1.f1], .agg #[.slice a3_ m3 q3, .int .i64 z3], .tuple #[.bool r0, .bool r1], .bool r0, .bool r1, .agg #[a0, .int .i64 D0.f1], .agg #[.slice xa xn xk, .int .i64 D0.f1], .agg #[a1, .int .i64 D1.f1], .agg #[.slice ya yn yk, .int .i64 D1.f1], .tuple #[.bool r0, .bool r1], .agg #[.slice xa xn xk, .int .i64 D0.f1], .agg #[.slice ya yn yk, .int .i64 D1.f1], .tuple #[.bool r0, .bool r1], .bool r0, .bool r1, .bool r0, .bool r0, .bool false, .bool false, .bool r1, .bool r1, .bool false, .bool false, σ 0, σ 1, σ 2, σ 3, undef, undef, undef, undef, undef, undef], []⟩) rfl rfl (fun _ => rfl) (fun K hK => ?_)
      obtain ⟨c0, c1⟩ := (BX.out.below hb BX.out.lt).two
      go_simp
      exact hK _ _ (Below.refl _ _) rfl
    · skip
      clear hd
      refine StepF.of (a1 := ⟨#[.agg #[a0, .int .i64 D0.f1], .agg #[a1, .int .i64 D1.f1], .pointer (some ⟨w.heap.size, 0, none⟩), .pointer (some ⟨w.heap.size + 1, 0, none⟩), .bool false, .int .i64 l2, .bool r0, .bool r1, .pointer (some ⟨w8.heap.size, 0, none⟩), .pointer (some ⟨w9.heap.size, 0, none⟩), .bool r0, .bool r1, .agg #[a0, .int .i64 D0.f1], .int .i64 1048576, .int .i64 l1, .int .i64 l1, .bool false, .agg #[a1, .int .i64 D1.f1], .int .i64 l1, .int .i64 l2, .int .i64 l2, .bool false, .tuple #[.bool r0, .bool r1], .agg #[a0, .int .i64 D0.f1], .agg #[.slice a1_ m1 q1, .int .i64 z1], .agg #[a1, .int .i64 D1.f1], .agg #[.slice a3_ m3 q3, .int .i64 z3], .tuple #[.bool r0, .bool r1], .bool r0, .bool r1, .agg #[a0, .int .i64 D0.f1], .agg #[.slice xa xn xk, .int .i64 D0.f1], .agg #[a1, .int .i64 D1.f1], .agg #[.slice ya yn yk, .int .i64 D1.f1], .tuple #[.bool r0, .bool r1], .agg #[.slice xa xn xk, .int .i64 D0.f1], .agg #[.slice ya yn yk, .int .i64 D1.f1], .tuple #[.bool r0, .bool r1], .bool r0, .bool r1, .bool r0, .bool r0, .bool false, .bool false, .bool r1, .bool r1, .bool false, .bool false, σ 0, σ 1, σ 2, σ 3, undef, undef, undef, undef, undef, undef], []⟩) rfl rfl (fun _ => rfl) (fun K hK => ?_)
      obtain ⟨c0, c1⟩ := (BA.out.below hb BA.out.lt).two
      go_simp
      exact hK _ _ (Below.refl _ _) rfl
    · skip
      have f1 : isf14 _ _ _ 1 σ c wr' := hd 1 (by decide) (by decide)
      simp only [isf14] at f1
      clear hd
      refine StepF.of (a1 := ⟨#[.agg #[a0, .int .i64 D0.f1], .agg #[a1, .int .i64 D1.f1], .pointer (some ⟨w.heap.size, 0, none⟩), .pointer (some ⟨w.heap.size + 1, 0, none⟩), .bool false, .int .i64 l2, .bool r0, .bool r1, .pointer (some ⟨w8.heap.size, 0, none⟩), .pointer (some ⟨w9.heap.size, 0, none⟩), .bool r0, .bool r1, .agg #[a0, .int .i64 D0.f1], .int .i64 1048576, .int .i64 l1, .int .i64 l1, .bool false, .agg #[a1, .int .i64 D1.f1], .int .i64 l1, .int .i64 l2, .int .i64 l2, .bool false, .tuple #[.bool r0, .bool r1], .agg #[a0, .int .i64 D0.f1], .agg #[.slice a1_ m1 q1, .int .i64 z1], .agg #[a1, .int .i64 D1.f1], .agg #[.slice a3_ m3 q3, .int .i64 z3], .tuple #[.bool r0, .bool r1], .bool r0, .bool r1, .agg #[a0, .int .i64 D0.f1], .agg #[.slice xa xn xk, .int .i64 D0.f1], .agg #[a1, .int .i64 D1.f1], .agg #[.slice ya yn yk, .int .i64 D1.f1], .tuple #[.bool r0, .bool r1], .agg #[.slice xa xn xk, .int .i64 D0.f1], .agg #[.slice ya yn yk, .int .i64 D1.f1], .tuple #[.bool r0, .bool r1], .bool r0, .bool r1, .bool r0, .bool r0, .bool false, .bool false, .bool r1, .bool r1, .bool false, .bool false, σ 0, (.agg #[a0, .int .i64 D0.f1]), σ 2, σ 3, undef, undef, undef, undef, undef, undef], []⟩) (by simp only [f1]) rfl (fun _ => rfl) (fun K hK => ?_)
      go_simp
      refine (toShares_any _ D0 _ (HR0.out.below (B.out.trans (hb.mono B.out.size))) hN0).mono ?_
      rintro e w5 ⟨u, rfl, ou, b⟩
      exact hK u w5 b ⟨ou.reads, by obtain ⟨x1, x2, x3, e⟩ := ou.form; exact ⟨x1, x2, x3, _, e⟩⟩
    · skip
      have f0 : isf14 _ _ _ 0 σ c wr' := hd 0 (by decide) (by decide)
      simp only [isf14] at f0
      have f2 : isf14 _ _ _ 2 σ c wr' := hd 2 (by decide) (by decide)
      obtain ⟨g2, a2_, m2, q2, z2, f2⟩ := f2; rw [f2] at g2
      clear hd
      refine StepF.of (a1 := ⟨#[.agg #[a0, .int .i64 D0.f1], .agg #[a1, .int .i64 D1.f1], .pointer (some ⟨w.heap.size, 0, none⟩), .pointer (some ⟨w.heap.size + 1, 0, none⟩), .bool false, .int .i64 l2, .bool r0, .bool r1, .pointer (some ⟨w8.heap.size, 0, none⟩), .pointer (some ⟨w9.heap.size, 0, none⟩), .bool r0, .bool r1, .agg #[a0, .int .i64 D0.f1], .int .i64 1048576, .int .i64 l1, .int .i64 l1, .bool false, .agg #[a1, .int .i64 D1.f1], .int .i64 l1, .int .i64 l2, .int .i64 l2, .bool false, .tuple #[.bool r0, .bool r1], .agg #[a0, .int .i64 D0.f1], .agg #[.slice a1_ m1 q1, .int .i64 z1], .agg #[a1, .int .i64 D1.f1], .agg #[.slice a3_ m3 q3, .int .i64 z3], .tuple #[.bool r0, .bool r1], .bool r0, .bool r1, .agg #[a0, .int .i64 D0.f1], .agg #[.slice xa xn xk, .int .i64 D0.f1], .agg #[a1, .int .i64 D1.f1], .agg #[.slice ya yn yk, .int .i64 D1.f1], .tuple #[.bool r0, .bool r1], .agg #[.slice xa xn xk, .int .i64 D0.f1], .agg #[.slice ya yn yk, .int .i64 D1.f1], .tuple #[.bool r0, .bool r1], .bool r0, .bool r1, .bool r0, .bool r0, .bool false, .bool false, .bool r1, .bool r1, .bool false, .bool false, (.agg #[.slice xa xn xk, .int .i64 D0.f1]), σ 1, (.agg #[.slice a2_ m2 q2, .int .i64 z2]), σ 3, undef, undef, undef, undef, undef, undef], []⟩) (by simp only [f0, f2]) rfl (fun _ => rfl) (fun K hK => ?_)
      go_simp
      refine (eqShares_same _ _ D0 _ (X0.out.below hb).reads g2).mono ?_
      rintro e w5 ⟨rfl, b⟩
      exact hK _ w5 b rfl
  intro σ c w12 b hf _ _
  have e0 : isf14 _ _ _ 0 σ c w12 := hf 0 (by decide)
  have e1 : isf14 _ _ _ 1 σ c w12 := hf 1 (by decide)
  have e3 : isf14 _ _ _ 3 σ c w12 := hf 3 (by decide)
  obtain ⟨_, a2_, m2, q2, z2, e2⟩ : isf14 _ _ _ 2 σ c w12 := hf 2 (by decide)
  simp only [isf14] at e0 e1 e3
  clear hf
  try dsimp only
  rw [e0, e1, e2, e3]
  clear e0 e1 e2 e3
  replace X0 := hid (X0.out.below b)
  replace X1 := hid (X1.out.below b)
  replace BA := hid (BA.out.below b BA.out.lt)
  replace BB := hid (BB.out.below b BB.out.lt)
  replace BX := hid (BX.out.below b BX.out.lt)
  replace BY := hid (BY.out.below b BY.out.lt)
  replace B : Hid (Below w.heap.size w w12) := B.out.trans (b.mono B.out.size)
  clear b
  refine wpAny_ready (rs := [4]) (by kernel_rfl) (by simp) ?_
  refine AllReady.cons rfl (fun K hK => ?_) AllReady.nil
  go_simp
  refine hK _ _ ?_
  clear hK K
  refine wpAny_done (by kernel_rfl) ?_ _
  obtain ⟨q0_0, q0_1⟩ := BA.out.two
  obtain ⟨q1_0, q1_1⟩ := BB.out.two
  obtain ⟨q2_0, q2_1⟩ := BX.out.two
  obtain ⟨q3_0, q3_1⟩ := BY.out.two
  go_wp2_with fail
  clear q0_0 q0_1 q1_0 q1_1 q2_0 q2_1 q3_0 q3_1
  refine wp_region_any (by kernel_rfl) ?_
  change wpAny _ _ _ _ _ _ _ (World.drew _)
  obtain ⟨w13, hW⟩ : ∃ W, W = World.drew w12 := ⟨_, rfl⟩
  have b : Below w12.heap.size w12 w13 := by rw [hW]; exact (Below.refl _ _).drew
  replace X0 := hid (X0.out.below b)
  replace X1 := hid (X1.out.below b)
  replace BA := hid (BA.out.below b BA.out.lt)
  replace BB := hid (BB.out.below b BB.out.lt)
  replace BX := hid (BX.out.below b BX.out.lt)
  replace BY := hid (BY.out.below b BY.out.lt)
  replace B : Hid (Below w.heap.size w w13) := B.out.trans (b.mono B.out.size)
  rw [← hW]
  clear hW b
  refine wpAny_facts' 1 (Array.replicate 5 false) #[true, true, true, true, false] [0, 1, 2, 3] (fun σ => #[.agg #[a0, .int .i64 D0.f1], .agg #[a1, .int .i64 D1.f1], .pointer (some ⟨w.heap.size, 0, none⟩), .pointer (some ⟨w.heap.size + 1, 0, none⟩), .bool false, .int .i64 l2, .bool r0, .bool r1, .pointer (some ⟨w8.heap.size, 0, none⟩), .pointer (some ⟨w9.heap.size, 0, none⟩), .bool r0, .bool r1, .agg #[a0, .int .i64 D0.f1], .int .i64 1048576, .int .i64 l1, .int .i64 l1, .bool false, .agg #[a1, .int .i64 D1.f1], .int .i64 l1, .int .i64 l2, .int .i64 l2, .bool false, .tuple #[.bool r0, .bool r1], .agg #[a0, .int .i64 D0.f1], .agg #[.slice a1_ m1 q1, .int .i64 z1], .agg #[a1, .int .i64 D1.f1], .agg #[.slice a3_ m3 q3, .int .i64 z3], .tuple #[.bool r0, .bool r1], .bool r0, .bool r1, .agg #[a0, .int .i64 D0.f1], .agg #[.slice xa xn xk, .int .i64 D0.f1], .agg #[a1, .int .i64 D1.f1], .agg #[.slice ya yn yk, .int .i64 D1.f1], .tuple #[.bool r0, .bool r1], .agg #[.slice xa xn xk, .int .i64 D0.f1], .agg #[.slice ya yn yk, .int .i64 D1.f1], .tuple #[.bool r0, .bool r1], .bool r0, .bool r1, .bool r0, .bool r0, .bool false, .bool false, .bool r1, .bool r1, .bool false, .bool false, .agg #[.slice xa xn xk, .int .i64 D0.f1], .agg #[a0, .int .i64 D0.f1], .agg #[.slice a2_ m2 q2, .int .i64 z2], .bool true, .bool false, σ 0, σ 1, σ 2, σ 3, undef]) (isf16 (.agg #[.slice ya yn yk, .int .i64 D1.f1]) (.agg #[a1, .int .i64 D1.f1]) D1) (fun _ => undef) rfl (by kernel_rfl) (by kernel_rfl) (by kernel_rfl) (by kernel_rfl) (by decide) isf16_keep (fun j hj i hi σ c w v r hne hd h => isf16_loc hj hne trivial h) ?_ ?_
  rotate_left
  · intro i hi σ c wr' hb hd
    simp only [List.mem_cons, List.not_mem_nil, or_false] at hi; rcases hi with rfl | rfl | rfl | rfl
    · skip
      clear hd
      refine StepF.of (a1 := ⟨#[.agg #[a0, .int .i64 D0.f1], .agg #[a1, .int .i64 D1.f1], .pointer (some ⟨w.heap.size, 0, none⟩), .pointer (some ⟨w.heap.size + 1, 0, none⟩), .bool false, .int .i64 l2, .bool r0, .bool r1, .pointer (some ⟨w8.heap.size, 0, none⟩), .pointer (some ⟨w9.heap.size, 0, none⟩), .bool r0, .bool r1, .agg #[a0, .int .i64 D0.f1], .int .i64 1048576, .int .i64 l1, .int .i64 l1, .bool false, .agg #[a1, .int .i64 D1.f1], .int .i64 l1, .int .i64 l2, .int .i64 l2, .bool false, .tuple #[.bool r0, .bool r1], .agg #[a0, .int .i64 D0.f1], .agg #[.slice a1_ m1 q1, .int .i64 z1], .agg #[a1, .int .i64 D1.f1], .agg #[.slice a3_ m3 q3, .int .i64 z3], .tuple #[.bool r0, .bool r1], .bool r0, .bool r1, .agg #[a0, .int .i64 D0.f1], .agg #[.slice xa xn xk, .int .i64 D0.f1], .agg #[a1, .int .i64 D1.f1], .agg #[.slice ya yn yk, .int .i64 D1.f1], .tuple #[.bool r0, .bool r1], .agg #[.slice xa xn xk, .int .i64 D0.f1], .agg #[.slice ya yn yk, .int .i64 D1.f1], .tuple #[.bool r0, .bool r1], .bool r0, .bool r1, .bool r0, .bool r0, .bool false, .bool false, .bool r1, .bool r1, .bool false, .bool false, .agg #[.slice xa xn xk, .int .i64 D0.f1], .agg #[a0, .int .i64 D0.f1], .agg #[.slice a2_ m2 q2, .int .i64 z2], .bool true, .bool false, σ 0, σ 1, σ 2, σ 3, undef], []⟩) rfl rfl (fun _ => rfl) (fun K hK => ?_)
      obtain ⟨c0, c1⟩ := (BY.out.below hb BY.out.lt).two
      go_simp
      exact hK _ _ (Below.refl _ _) rfl
    · skip
      clear hd
      refine StepF.of (a1 := ⟨#[.agg #[a0, .int .i64 D0.f1], .agg #[a1, .int .i64 D1.f1], .pointer (some ⟨w.heap.size, 0, none⟩), .pointer (some ⟨w.heap.size + 1, 0, none⟩), .bool false, .int .i64 l2, .bool r0, .bool r1, .pointer (some ⟨w8.heap.size, 0, none⟩), .pointer (some ⟨w9.heap.size, 0, none⟩), .bool r0, .bool r1, .agg #[a0, .int .i64 D0.f1], .int .i64 1048576, .int .i64 l1, .int .i64 l1, .bool false, .agg #[a1, .int .i64 D1.f1], .int .i64 l1, .int .i64 l2, .int .i64 l2, .bool false, .tuple #[.bool r0, .bool r1], .agg #[a0, .int .i64 D0.f1], .agg #[.slice a1_ m1 q1, .int .i64 z1], .agg #[a1, .int .i64 D1.f1], .agg #[.slice a3_ m3 q3, .int .i64 z3], .tuple #[.bool r0, .bool r1], .bool r0, .bool r1, .agg #[a0, .int .i64 D0.f1], .agg #[.slice xa xn xk, .int .i64 D0.f1], .agg #[a1, .int .i64 D1.f1], .agg #[.slice ya yn yk, .int .i64 D1.f1], .tuple #[.bool r0, .bool r1], .agg #[.slice xa xn xk, .int .i64 D0.f1], .agg #[.slice ya yn yk, .int .i64 D1.f1], .tuple #[.bool r0, .bool r1], .bool r0, .bool r1, .bool r0, .bool r0, .bool false, .bool false, .bool r1, .bool r1, .bool false, .bool false, .agg #[.slice xa xn xk, .int .i64 D0.f1], .agg #[a0, .int .i64 D0.f1], .agg #[.slice a2_ m2 q2, .int .i64 z2], .bool true, .bool false, σ 0, σ 1, σ 2, σ 3, undef], []⟩) rfl rfl (fun _ => rfl) (fun K hK => ?_)
      obtain ⟨c0, c1⟩ := (BB.out.below hb BB.out.lt).two
      go_simp
      exact hK _ _ (Below.refl _ _) rfl
    · skip
      have f1 : isf16 _ _ _ 1 σ c wr' := hd 1 (by decide) (by decide)
      simp only [isf16] at f1
      clear hd
      refine StepF.of (a1 := ⟨#[.agg #[a0, .int .i64 D0.f1], .agg #[a1, .int .i64 D1.f1], .pointer (some ⟨w.heap.size, 0, none⟩), .pointer (some ⟨w.heap.size + 1, 0, none⟩), .bool false, .int .i64 l2, .bool r0, .bool r1, .pointer (some ⟨w8.heap.size, 0, none⟩), .pointer (some ⟨w9.heap.size, 0, none⟩), .bool r0, .bool r1, .agg #[a0, .int .i64 D0.f1], .int .i64 1048576, .int .i64 l1, .int .i64 l1, .bool false, .agg #[a1, .int .i64 D1.f1], .int .i64 l1, .int .i64 l2, .int .i64 l2, .bool false, .tuple #[.bool r0, .bool r1], .agg #[a0, .int .i64 D0.f1], .agg #[.slice a1_ m1 q1, .int .i64 z1], .agg #[a1, .int .i64 D1.f1], .agg #[.slice a3_ m3 q3, .int .i64 z3], .tuple #[.bool r0, .bool r1], .bool r0, .bool r1, .agg #[a0, .int .i64 D0.f1], .agg #[.slice xa xn xk, .int .i64 D0.f1], .agg #[a1, .int .i64 D1.f1], .agg #[.slice ya yn yk, .int .i64 D1.f1], .tuple #[.bool r0, .bool r1], .agg #[.slice xa xn xk, .int .i64 D0.f1], .agg #[.slice ya yn yk, .int .i64 D1.f1], .tuple #[.bool r0, .bool r1], .bool r0, .bool r1, .bool r0, .bool r0, .bool false, .bool false, .bool r1, .bool r1, .bool false, .bool false, .agg #[.slice xa xn xk, .int .i64 D0.f1], .agg #[a0, .int .i64 D0.f1], .agg #[.slice a2_ m2 q2, .int .i64 z2], .bool true, .bool false, σ 0, (.agg #[a1, .int .i64 D1.f1]), σ 2, σ 3, undef], []⟩) (by simp only [f1]) rfl (fun _ => rfl) (fun K hK => ?_)
      go_simp
      refine (toShares_any _ D1 _ (HR1.out.below (B.out.trans (hb.mono B.out.size))) hN1).mono ?_
      rintro e w5 ⟨u, rfl, ou, b⟩
      exact hK u w5 b ⟨ou.reads, by obtain ⟨x1, x2, x3, e⟩ := ou.form; exact ⟨x1, x2, x3, _, e⟩⟩
    · skip
      have f0 : isf16 _ _ _ 0 σ c wr' := hd 0 (by decide) (by decide)
      simp only [isf16] at f0
      have f2 : isf16 _ _ _ 2 σ c wr' := hd 2 (by decide) (by decide)
      obtain ⟨g2, ba2_, bm2, bq2, bz2, f2⟩ := f2; rw [f2] at g2
      clear hd
      refine StepF.of (a1 := ⟨#[.agg #[a0, .int .i64 D0.f1], .agg #[a1, .int .i64 D1.f1], .pointer (some ⟨w.heap.size, 0, none⟩), .pointer (some ⟨w.heap.size + 1, 0, none⟩), .bool false, .int .i64 l2, .bool r0, .bool r1, .pointer (some ⟨w8.heap.size, 0, none⟩), .pointer (some ⟨w9.heap.size, 0, none⟩), .bool r0, .bool r1, .agg #[a0, .int .i64 D0.f1], .int .i64 1048576, .int .i64 l1, .int .i64 l1, .bool false, .agg #[a1, .int .i64 D1.f1], .int .i64 l1, .int .i64 l2, .int .i64 l2, .bool false, .tuple #[.bool r0, .bool r1], .agg #[a0, .int .i64 D0.f1], .agg #[.slice a1_ m1 q1, .int .i64 z1], .agg #[a1, .int .i64 D1.f1], .agg #[.slice a3_ m3 q3, .int .i64 z3], .tuple #[.bool r0, .bool r1], .bool r0, .bool r1, .agg #[a0, .int .i64 D0.f1], .agg #[.slice xa xn xk, .int .i64 D0.f1], .agg #[a1, .int .i64 D1.f1], .agg #[.slice ya yn yk, .int .i64 D1.f1], .tuple #[.bool r0, .bool r1], .agg #[.slice xa xn xk, .int .i64 D0.f1], .agg #[.slice ya yn yk, .int .i64 D1.f1], .tuple #[.bool r0, .bool r1], .bool r0, .bool r1, .bool r0, .bool r0, .bool false, .bool false, .bool r1, .bool r1, .bool false, .bool false, .agg #[.slice xa xn xk, .int .i64 D0.f1], .agg #[a0, .int .i64 D0.f1], .agg #[.slice a2_ m2 q2, .int .i64 z2], .bool true, .bool false, (.agg #[.slice ya yn yk, .int .i64 D1.f1]), σ 1, (.agg #[.slice ba2_ bm2 bq2, .int .i64 bz2]), σ 3, undef], []⟩) (by simp only [f0, f2]) rfl (fun _ => rfl) (fun K hK => ?_)
      go_simp
      refine (eqShares_same _ _ D1 _ (X1.out.below hb).reads g2).mono ?_
      rintro e w5 ⟨rfl, b⟩
      exact hK _ w5 b rfl
  intro σ c w14 b hf _ _
  have e0 : isf16 _ _ _ 0 σ c w14 := hf 0 (by decide)
  have e1 : isf16 _ _ _ 1 σ c w14 := hf 1 (by decide)
  have e3 : isf16 _ _ _ 3 σ c w14 := hf 3 (by decide)
  obtain ⟨_, ba2_, bm2, bq2, bz2, e2⟩ : isf16 _ _ _ 2 σ c w14 := hf 2 (by decide)
  simp only [isf16] at e0 e1 e3
  clear hf
  try dsimp only
  rw [e0, e1, e2, e3]
  clear e0 e1 e2 e3
  replace X0 := hid (X0.out.below b)
  replace X1 := hid (X1.out.below b)
  replace BA := hid (BA.out.below b BA.out.lt)
  replace BB := hid (BB.out.below b BB.out.lt)
  replace BX := hid (BX.out.below b BX.out.lt)
  replace BY := hid (BY.out.below b BY.out.lt)
  replace B : Hid (Below w.heap.size w w14) := B.out.trans (b.mono B.out.size)
  clear b
  refine wpAny_ready (rs := [4]) (by kernel_rfl) (by simp) ?_
  refine AllReady.cons rfl (fun K hK => ?_) AllReady.nil
  go_simp
  refine hK _ _ ?_
  clear hK K
  refine wpAny_done (by kernel_rfl) ?_ _
  go_wp2
  go_ret
  exact ⟨rfl, B.out⟩
end Go.Proofs.Ytepnhbicmlfnhah
