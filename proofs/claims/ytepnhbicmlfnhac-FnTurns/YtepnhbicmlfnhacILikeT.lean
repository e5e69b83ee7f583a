/-
  impl.turnsLike: turns copied into memory of their own. Nothing old is written.
-/
import Derived.Test.YtepnhbicmlfnhacInfoII
import Derived.Test.YtepnhbicmlfnhacTurnFns
import Derived.Test.YtepnhbicmlfnhacRegFacts
import Derived.Test.YtepnhbicmlfnhacILikeL
import Derived.Test.YtepnhbicmlfnhacKAppd
namespace Go.Proofs.Ytepnhbicmlfnhac
open Go.RowKit

/-- What the operations make. -/
def likeF (A n : Nat) (v0 v1 v2 v3 : Value) (z : Int) (D : TuD) : Nat → (Nat → Value) → (Nat → Nat × Nat) → World → Prop
  | 0, σ, _, _ => σ 0 = .pointer (some ⟨A, 0, none⟩)
  | 1, σ, _, _ => σ 1 = v0
  | 2, σ, c, w => KOwn (c 2).1 (c 2).2 w (σ 2) D.f0 ∧ ∃ a n k, σ 2 = .slice a n k
  | 3, σ, _, _ => σ 3 = .pointer (some ⟨A, 1, none⟩)
  | 4, σ, _, _ => σ 4 = v1
  | 5, σ, _, _ => σ 5 = .int .i64 (n : Nat)
  | 6, σ, c, w => (QRow w (c 6) (σ 6) (qpart D.f1 0) (fun _ => ((c 6).2, (c 6).2)) ∧ QAppd w (σ 6) (qpart D.f1 0) (fun _ => ((c 6).2, (c 6).2))) ∧ σ 6 = .slice (some ⟨(c 6).1, 0, none⟩) n n ∧ (c 6).2 = (c 6).1 + 1
  | 7, σ, _, _ => σ 7 = .pointer (some ⟨A, 2, none⟩)
  | 8, σ, _, _ => σ 8 = v2
  | 9, σ, c, w => KOwn (c 9).1 (c 9).2 w (σ 9) D.f2 ∧ ∃ a n k, σ 9 = .slice a n k
  | 10, σ, _, _ => σ 10 = .pointer (some ⟨A, 3, none⟩)
  | 11, σ, _, _ => σ 11 = v3
  | 12, σ, c, w => KOwn (c 12).1 (c 12).2 w (σ 12) D.f3 ∧ ∃ a n k, σ 12 = .slice a n k
  | 13, σ, _, _ => σ 13 = .pointer (some ⟨A, 4, none⟩)
  | 14, σ, _, _ => σ 14 = .int .i64 z
  | 15, σ, _, _ => σ 15 = .agg #[σ 2, σ 6, σ 9, σ 12, σ 14]
  | 16, σ, c, w => σ 16 = .pointer (some ⟨(c 16).1, 0, none⟩) ∧ BoxL w (c 16).1 [.slice none 0 0, .slice none 0 0, .slice none 0 0, .slice none 0 0, .int .i64 0] ∧ (c 16).2 = (c 16).1 + 1
  | _, _, _, _ => True
theorem likeF_keep {A n : Nat} {v0 v1 v2 v3 : Value} {z : Int} {D : TuD} : ∀ j ∈ [0, 1, 2, 3, 4, 5, 6, 7, 8, 9, 10, 11, 12, 13, 14, 15, 16], ∀ σ c w w', likeF A n v0 v1 v2 v3 z D j σ c w → Below w.heap.size w w' → likeF A n v0 v1 v2 v3 z D j σ c w' := by
  intro j hj σ c w w' h hb
  simp only [List.mem_cons, List.not_mem_nil, or_false] at hj; rcases hj with rfl | rfl | rfl | rfl | rfl | rfl | rfl | rfl | rfl | rfl | rfl | rfl | rfl | rfl | rfl | rfl | rfl
  · exact h
  · exact h
  · exact ⟨h.1.below hb, h.2⟩
  · exact h
  · exact h
  · exact h
  · exact ⟨⟨h.1.1.below hb, h.1.2.below h.1.1 hb⟩, h.2⟩
  · exact h
  · exact h
  · exact ⟨h.1.below hb, h.2⟩
  · exact h
  · exact h
  · exact ⟨h.1.below hb, h.2⟩
  · exact h
  · exact h
  · exact h
  · exact ⟨h.1, h.2.1.below hb h.2.1.lt, h.2.2⟩
theorem likeF_loc {A n : Nat} {v0 v1 v2 v3 : Value} {z : Int} {D : TuD} {j i : Nat} {σ : Nat → Value} {c : Nat → Nat × Nat} {w : World} {v : Value} {r : Nat × Nat} (hj : j ∈ [0, 1, 2, 3, 4, 5, 6, 7, 8, 9, 10, 11, 12, 13, 14, 15, 16]) (hne : i ≠ j) (hd : (j = 15 → i ≠ 2 ∧ i ≠ 6 ∧ i ≠ 9 ∧ i ≠ 12 ∧ i ≠ 14)) (h : likeF A n v0 v1 v2 v3 z D j σ c w) : likeF A n v0 v1 v2 v3 z D j (upd σ i v) (upd c i r) w := by
  simp only [List.mem_cons, List.not_mem_nil, or_false] at hj; rcases hj with rfl | rfl | rfl | rfl | rfl | rfl | rfl | rfl | rfl | rfl | rfl | rfl | rfl | rfl | rfl | rfl | rfl
  · simp only [likeF, upd_other _ _ (Ne.symm hne)] at h ⊢
    exact h
  · simp only [likeF, upd_other _ _ (Ne.symm hne)] at h ⊢
    exact h
  · simp only [likeF, upd_other _ _ (Ne.symm hne)] at h ⊢
    exact h
  · simp only [likeF, upd_other _ _ (Ne.symm hne)] at h ⊢
    exact h
  · simp only [likeF, upd_other _ _ (Ne.symm hne)] at h ⊢
    exact h
  · simp only [likeF, upd_other _ _ (Ne.symm hne)] at h ⊢
    exact h
  · simp only [likeF, upd_other _ _ (Ne.symm hne)] at h ⊢
    exact h
  · simp only [likeF, upd_other _ _ (Ne.symm hne)] at h ⊢
    exact h
  · simp only [likeF, upd_other _ _ (Ne.symm hne)] at h ⊢
    exact h
  · simp only [likeF, upd_other _ _ (Ne.symm hne)] at h ⊢
    exact h
  · simp only [likeF, upd_other _ _ (Ne.symm hne)] at h ⊢
    exact h
  · simp only [likeF, upd_other _ _ (Ne.symm hne)] at h ⊢
    exact h
  · simp only [likeF, upd_other _ _ (Ne.symm hne)] at h ⊢
    exact h
  · simp only [likeF, upd_other _ _ (Ne.symm hne)] at h ⊢
    exact h
  · simp only [likeF, upd_other _ _ (Ne.symm hne)] at h ⊢
    exact h
  · obtain ⟨d2, d6, d9, d12, d14⟩ := hd rfl
    simp only [likeF, upd_other _ _ (Ne.symm hne), upd_other _ _ (Ne.symm d2), upd_other _ _ (Ne.symm d6), upd_other _ _ (Ne.symm d9), upd_other _ _ (Ne.symm d12), upd_other _ _ (Ne.symm d14)] at h ⊢
    exact h
  · simp only [likeF, upd_other _ _ (Ne.symm hne)] at h ⊢
    exact h
/-- What the operations make. -/
def likeG (X kk : Nat) (vq u : Value) (xs : List Int) : Nat → (Nat → Value) → (Nat → Nat × Nat) → World → Prop
  | 0, σ, _, _ => σ 0 = .pointer (some ⟨X, 1, none⟩)
  | 1, σ, _, _ => σ 1 = vq
  | 2, σ, _, _ => σ 2 = .int .i64 (kk : Nat)
  | 3, σ, _, _ => σ 3 = u
  | 4, σ, c, w => KOwn (c 4).1 (c 4).2 w (σ 4) xs ∧ KApp (c 4).1 (c 4).2 w (σ 4) xs ∧ ∃ a n k, σ 4 = .slice a n k
  | _, _, _, _ => True
theorem likeG_keep {X kk : Nat} {vq u : Value} {xs : List Int} : ∀ j ∈ [0, 1, 2, 3, 4], ∀ σ c w w', likeG X kk vq u xs j σ c w → Below w.heap.size w w' → likeG X kk vq u xs j σ c w' := by
  intro j hj σ c w w' h hb
  simp only [List.mem_cons, List.not_mem_nil, or_false] at hj; rcases hj with rfl | rfl | rfl | rfl | rfl
  · exact h
  · exact h
  · exact h
  · exact h
  · exact ⟨h.1.below hb, h.2.1.below hb, h.2.2⟩
theorem likeG_loc {X kk : Nat} {vq u : Value} {xs : List Int} {j i : Nat} {σ : Nat → Value} {c : Nat → Nat × Nat} {w : World} {v : Value} {r : Nat × Nat} (hj : j ∈ [0, 1, 2, 3, 4]) (hne : i ≠ j) (_hd : True) (h : likeG X kk vq u xs j σ c w) : likeG X kk vq u xs j (upd σ i v) (upd c i r) w := by
  simp only [List.mem_cons, List.not_mem_nil, or_false] at hj; rcases hj with rfl | rfl | rfl | rfl | rfl
  · simp only [likeG, upd_other _ _ (Ne.symm hne)] at h ⊢
    exact h
  · simp only [likeG, upd_other _ _ (Ne.symm hne)] at h ⊢
    exact h
  · simp only [likeG, upd_other _ _ (Ne.symm hne)] at h ⊢
    exact h
  · simp only [likeG, upd_other _ _ (Ne.symm hne)] at h ⊢
    exact h
  · simp only [likeG, upd_other _ _ (Ne.symm hne)] at h ⊢
    exact h
set_option maxRecDepth 100000 in
set_option maxHeartbeats 16000000 in
theorem ilike_any (v : Value) (D : TuD) (w : World) (hr : TuReads w v D) (hg : GoodT D) :
    Calls Try.prog 84 #[v] w fun e w' => ∃ u0, e = .returned u0 ∧ TuOwnA (Iv w.heap.size w'.heap.size) w' u0 D ∧ Below w.heap.size w w' := by
  obtain ⟨v0, v1, v2, v3, rfl, r0, r1, r2, r3⟩ := hr
  have hn := hg.n
  have L1 := hg.l1
  have L2 := hg.l2
  have L3 := hg.l3
  have HG := hid hg
  have R0 := hid r0
  have R2 := hid r2
  have R3 := hid r3
  obtain ⟨g0, o0, p0, e0, _⟩ := r0.cells 0 (by omega)
  obtain ⟨g2, o2, p2, e2, _⟩ := r2.cells 0 (by omega)
  obtain ⟨g3, o3, p3, e3, _⟩ := r3.cells 0 (by omega)
  obtain ⟨g1, o1, p1, e1, h1⟩ := r1.cells 0 (by omega)
  have H1 := hid h1
  have HL1 := hid L1
  have HL2 := hid L2
  have HL3 := hid L3
  rw [L1] at e1
  rw [L2] at e2
  rw [L3] at e3
  subst e0 e1 e2 e3
  obtain ⟨z, hz⟩ : ∃ z, z = D.f4 := ⟨_, rfl⟩
  have HZ := hid hz
  rw [← hz]
  have mkQ := run_make_row' (P := Try.prog) 53 23 (.slice none 0 0) 24 Try.underlying53 info_ints rfl .i64 .i64 D.f0.length (by omega) (by omega)
  clear r0 r1 r2 r3 h1 L1 L2 L3 hg hz
  have PA := hid (boxL_new w [.slice (some ⟨g0, o0, none⟩) D.f0.length p0, .slice (some ⟨g1, o1, none⟩) D.f0.length p1, .slice (some ⟨g2, o2, none⟩) D.f0.length p2, .slice (some ⟨g3, o3, none⟩) D.f0.length p3, .int .i64 z] 55)
  have PR := hid (boxL_new (w.alloc (.cells #[.slice (some ⟨g0, o0, none⟩) D.f0.length p0, .slice (some ⟨g1, o1, none⟩) D.f0.length p1, .slice (some ⟨g2, o2, none⟩) D.f0.length p2, .slice (some ⟨g3, o3, none⟩) D.f0.length p3, .int .i64 z] 55)) [.slice none 0 0, .slice none 0 0, .slice none 0 0, .slice none 0 0, .int .i64 0] 55)
  replace PA := hid (PA.out.below ((Below.refl _ _).alloc (Nat.le_refl _) (.cells #[.slice none 0 0, .slice none 0 0, .slice none 0 0, .slice none 0 0, .int .i64 0] 55)) PA.out.lt)
  rw [World.size_alloc] at PR
  have B : Hid (Below w.heap.size w ((w.alloc (.cells #[.slice (some ⟨g0, o0, none⟩) D.f0.length p0, .slice (some ⟨g1, o1, none⟩) D.f0.length p1, .slice (some ⟨g2, o2, none⟩) D.f0.length p2, .slice (some ⟨g3, o3, none⟩) D.f0.length p3, .int .i64 z] 55)).alloc (.cells #[.slice none 0 0, .slice none 0 0, .slice none 0 0, .slice none 0 0, .int .i64 0] 55))) := ((Below.refl _ _).alloc (Nat.le_refl _) _).alloc (by simp) _
  have hsz : ((w.alloc (.cells #[.slice (some ⟨g0, o0, none⟩) D.f0.length p0, .slice (some ⟨g1, o1, none⟩) D.f0.length p1, .slice (some ⟨g2, o2, none⟩) D.f0.length p2, .slice (some ⟨g3, o3, none⟩) D.f0.length p3, .int .i64 z] 55)).alloc (.cells #[.slice none 0 0, .slice none 0 0, .slice none 0 0, .slice none 0 0, .int .i64 0] 55)).heap.size = w.heap.size + 2 := by rw [World.size_alloc, World.size_alloc]
  go_enter Try.func84, Try.ntmps84
  go_wp2_with fail
  refine wp_region_any (by kernel_rfl) ?_
  change wpAny _ _ _ _ _ _ _ (World.drew _)
  obtain ⟨W, hW⟩ : ∃ W, W = World.drew ((w.alloc (.cells #[.slice (some ⟨g0, o0, none⟩) D.f0.length p0, .slice (some ⟨g1, o1, none⟩) D.f0.length p1, .slice (some ⟨g2, o2, none⟩) D.f0.length p2, .slice (some ⟨g3, o3, none⟩) D.f0.length p3, .int .i64 z] 55)).alloc (.cells #[.slice none 0 0, .slice none 0 0, .slice none 0 0, .slice none 0 0, .int .i64 0] 55)) := ⟨_, rfl⟩
  have BW : Hid (Below w.heap.size w W) := by rw [hW]; exact B.out.drew
  have hWs : W.heap.size = w.heap.size + 2 := by rw [hW]; exact hsz
  have HA : Hid (BoxL W w.heap.size [.slice (some ⟨g0, o0, none⟩) D.f0.length p0, .slice (some ⟨g1, o1, none⟩) D.f0.length p1, .slice (some ⟨g2, o2, none⟩) D.f0.length p2, .slice (some ⟨g3, o3, none⟩) D.f0.length p3, .int .i64 z]) := by rw [hW]; exact PA.out
  have HR : Hid (BoxL W (w.heap.size + 1) [.slice none 0 0, .slice none 0 0, .slice none 0 0, .slice none 0 0, .int .i64 0]) := by rw [hW]; exact PR.out
  rw [← hW]
  clear hW hsz PA PR B
  refine wpAny_facts' 1 (Array.replicate 18 false) #[true, true, true, true, true, true, true, true, true, true, true, true, true, true, true, true, true, false] [0, 1, 2, 3, 4, 5, 6, 7, 8, 9, 10, 11, 12, 13, 14, 15, 16] (fun σ => #[.agg #[.slice (some ⟨g0, o0, none⟩) D.f0.length p0, .slice (some ⟨g1, o1, none⟩) D.f0.length p1, .slice (some ⟨g2, o2, none⟩) D.f0.length p2, .slice (some ⟨g3, o3, none⟩) D.f0.length p3, .int .i64 z], .pointer (some ⟨w.heap.size, 0, none⟩), .pointer (some ⟨w.heap.size + 1, 0, none⟩), σ 16, undef, undef, σ 0, σ 1, σ 2, σ 3, σ 4, σ 5, σ 6, σ 7, σ 8, σ 9, σ 10, σ 11, σ 12, σ 13, σ 14, σ 15, undef, undef, undef, undef, undef, undef, undef, undef, undef, undef, undef, undef, undef, undef, undef, undef]) (likeF w.heap.size D.f0.length (.slice (some ⟨g0, o0, none⟩) D.f0.length p0) (.slice (some ⟨g1, o1, none⟩) D.f0.length p1) (.slice (some ⟨g2, o2, none⟩) D.f0.length p2) (.slice (some ⟨g3, o3, none⟩) D.f0.length p3) z D) (fun _ => undef) rfl (by kernel_rfl) (by kernel_rfl) (by kernel_rfl) (by kernel_rfl) (by decide) likeF_keep (fun j hj i hi σ c w v r hne hd h => likeF_loc hj hne (fun e => by subst e; exact ⟨(hd 2 (by decide)).symm, (hd 6 (by decide)).symm, (hd 9 (by decide)).symm, (hd 12 (by decide)).symm, (hd 14 (by decide)).symm⟩) h) ?_ ?_
  · intro σ c wr hb hf hin hdj
    obtain ⟨k2, a2, m2, q2, e2⟩ : likeF _ _ _ _ _ _ _ _ 2 σ c wr := hf 2 (by decide)
    obtain ⟨k9, a9, m9, q9, e9⟩ : likeF _ _ _ _ _ _ _ _ 9 σ c wr := hf 9 (by decide)
    obtain ⟨k12, a12, m12, q12, e12⟩ : likeF _ _ _ _ _ _ _ _ 12 σ c wr := hf 12 (by decide)
    obtain ⟨⟨k6, ka6⟩, e6, hc6⟩ : likeF _ _ _ _ _ _ _ _ 6 σ c wr := hf 6 (by decide)
    have e14 : likeF _ _ _ _ _ _ _ _ 14 σ c wr := hf 14 (by decide)
    have e15 : likeF _ _ _ _ _ _ _ _ 15 σ c wr := hf 15 (by decide)
    obtain ⟨e16, hX, hc16⟩ : likeF _ _ _ _ _ _ _ _ 16 σ c wr := hf 16 (by decide)
    simp only [likeF] at e14 e15
    rw [e2] at k2 e15
    rw [e6] at k6 ka6 e15
    rw [e9] at k9 e15
    rw [e12] at k12 e15
    rw [e14] at e15
    have n2 := hin 2 (by decide)
    have n6 := hin 6 (by decide)
    have n9 := hin 9 (by decide)
    have n12 := hin 12 (by decide)
    have n16 := hin 16 (by decide)
    have d2_6 := hdj 2 (by decide) 6 (by decide) (by decide)
    have d2_9 := hdj 2 (by decide) 9 (by decide) (by decide)
    have d2_12 := hdj 2 (by decide) 12 (by decide) (by decide)
    have d6_9 := hdj 6 (by decide) 9 (by decide) (by decide)
    have d6_12 := hdj 6 (by decide) 12 (by decide) (by decide)
    have d9_12 := hdj 9 (by decide) 12 (by decide) (by decide)
    have d2_16 := hdj 2 (by decide) 16 (by decide) (by decide)
    have d6_16 := hdj 6 (by decide) 16 (by decide) (by decide)
    have d9_16 := hdj 9 (by decide) 16 (by decide) (by decide)
    have d12_16 := hdj 12 (by decide) 16 (by decide) (by decide)
    clear hf hin hdj
    dsimp only
    rw [e2, e6, e9, e12, e14, e15, e16]
    generalize c 2 = c2 at k2 n2 d2_6 d2_9 d2_12 d2_16
    generalize c 6 = c6 at k6 ka6 hc6 n6 d2_6 d6_9 d6_12 d6_16 ⊢
    generalize c 9 = c9 at k9 n9 d2_9 d6_9 d9_12 d9_16
    generalize c 12 = c12 at k12 n12 d2_12 d6_12 d9_12 d12_16
    generalize c 16 = c16 at hX hc16 n16 d2_16 d6_16 d9_16 d12_16 ⊢
    obtain ⟨X, hXc⟩ : ∃ X, X = c16.1 := ⟨_, rfl⟩
    have ec : c16 = (X, X + 1) := by rw [hXc]; exact Prod.ext rfl hc16
    subst ec
    clear hc16 hXc
    obtain ⟨B, hBc⟩ : ∃ B, B = c6.1 := ⟨_, rfl⟩
    clear e15
    rw [← hBc] at k6 ka6 ⊢
    simp only at hX n16 ⊢
    have HB := hid (BW.out.trans (hb.mono BW.out.size))
    have PA := hid (HA.out.below hb HA.out.lt)
    have PR := hid (HR.out.below hb HR.out.lt)
    have hbs := hb.size
    have OL := hid (LikeL.start (lo := w.heap.size + 2) (z := z) hX k2 k6 ka6 k9 k12 (by omega) (by omega) (by omega) (by omega) (by omega) (by omega) d2_6 d2_9 d2_12 d6_9 d6_12 d9_12 d2_16 d6_16 d9_16 d12_16)
    have op := put5_only wr X (.slice a2 m2 q2) (.slice (some ⟨B, 0, none⟩) D.f0.length D.f0.length) (.slice a9 m9 q9) (.slice a12 m12 q12) (.int .i64 z)
    have HB2 := hid (HB.out.trans (op.below fun j e => by omega))
    have PA2 := hid (PA.out.of_block (op.2.1 _ (by omega)))
    have PR2 := hid (PR.out.of_block (op.2.1 _ (by omega)))
    obtain ⟨y0, y1, y2, y3, y4⟩ := hX.five
    have x0 := (hX.cell 0 (by simp)).2
    have x1 := (hX.cell 1 (by simp)).2
    have x2 := (hX.cell 2 (by simp)).2
    have x3 := (hX.cell 3 (by simp)).2
    have x4 := (hX.cell 4 (by simp)).2
    have hXlo : w.heap.size + 2 ≤ X := by omega
    have hBlo : w.heap.size + 2 ≤ B := by omega
    clear k2 k6 ka6 k9 k12 n2 n6 n9 n12 n16 d2_6 d2_9 d2_12 d6_9 d6_12 d9_12 d2_16 d6_16 d9_16 d12_16 op hX HB PA PR hb hbs HA HR BW e2 e6 e9 e12 e14 e16 hWs hc6 hBc
    refine wpAny_ready (rs := [17]) (by kernel_rfl) (by simp) ?_
    refine AllReady.cons rfl (fun K hK => ?_) AllReady.nil
    go_simp
    refine hK _ _ ?_
    clear hK K
    refine wpAny_done (by kernel_rfl) ?_ _
    obtain ⟨W2, hW2⟩ : ∃ W2, W2 = put5 wr X (.slice a2 m2 q2) (.slice (some ⟨B, 0, none⟩) D.f0.length D.f0.length) (.slice a9 m9 q9) (.slice a12 m12 q12) (.int .i64 z) := ⟨_, rfl⟩
    rw [← hW2] at OL HB2 PA2 PR2
    simp only [put5] at hW2
    rw [← hW2]
    clear hW2 y0 y1 y2 y3 y4 x0 x1 x2 x3 x4 mkQ
    obtain ⟨y0, y1, y2, y3, y4⟩ := PA2.out.five
    go_wp2_with fail
    clear y0 y1 y2 y3 y4
    go_loopw [25] (fun n wx => ∃ (i : Nat) (iv : Nat → Nat × Nat), n = .int .i64 i ∧ i ≤ D.f0.length ∧ LikeL (w.heap.size + 2) X D z (.slice a2 m2 q2) (.slice (some ⟨B, 0, none⟩) D.f0.length D.f0.length) (.slice a9 m9 q9) (.slice a12 m12 q12) c2 c6 c9 c12 i wx iv ∧ Below w.heap.size w wx ∧ BoxL wx w.heap.size [.slice (some ⟨g0, o0, none⟩) D.f0.length p0, .slice (some ⟨g1, o1, none⟩) D.f0.length p1, .slice (some ⟨g2, o2, none⟩) D.f0.length p2, .slice (some ⟨g3, o3, none⟩) D.f0.length p3, .int .i64 z] ∧ BoxL wx (w.heap.size + 1) [.slice none 0 0, .slice none 0 0, .slice none 0 0, .slice none 0 0, .int .i64 0]) (fun n _ => D.f0.length - (intOf n).toNat)
    case atStart => exact ⟨0, _, rfl, by omega, OL.out, HB2.out, PA2.out, PR2.out⟩
    case round =>
      obtain ⟨i, iv, rfl, hi2, hL, hB, hA, hR⟩ := hrel
      have HL := hid hL
      have HB := hid hB
      have HA := hid hA
      have HR := hid hR
      clear hL hB hA hR OL HB2 PA2 PR2
      by_cases hlt : i < D.f0.length
      · obtain ⟨u, cu, hu⟩ := H1.out i (by rw [HL1.out]; exact hlt)
        have CU := World.cell?_of_block (a := ⟨g1, o1 + i, none⟩) (HB.out.block g1 (lt_of_cell cu))
        rw [cu] at CU
        have HU := hid (hu.below HB.out)
        obtain ⟨au, nu, ku, eu⟩ : ∃ a n k, u = .slice a n k := by obtain ⟨a, k, e, _⟩ := hu; exact ⟨a, _, k, e⟩
        subst eu
        clear cu hu
        have n0 : (0 : Int) ≤ (i : Int) := by omega
        have n1 : (i : Int) < (D.f0.length : Int) := by omega
        have hlen : (D.f1.getD i []).length ≤ 30 := (HG.out.k i (by rw [HL1.out]; exact hlt)).1
        go_wp2_with fail
        refine wp_region_any (by kernel_rfl) ?_
        change wpAny _ _ _ _ _ _ _ (World.drew _)
        obtain ⟨wz, hwz⟩ : ∃ wz, wz = World.drew wr := ⟨_, rfl⟩
        replace HL : Hid (LikeL (w.heap.size + 2) X D z (.slice a2 m2 q2) (.slice (some ⟨B, 0, none⟩) D.f0.length D.f0.length) (.slice a9 m9 q9) (.slice a12 m12 q12) c2 c6 c9 c12 i wz iv) := by rw [hwz]; exact hid HL.out.drew
        replace HB : Hid (Below w.heap.size w wz) := by rw [hwz]; exact HB.out.drew
        replace HA : Hid (BoxL wz w.heap.size [.slice (some ⟨g0, o0, none⟩) D.f0.length p0, .slice (some ⟨g1, o1, none⟩) D.f0.length p1, .slice (some ⟨g2, o2, none⟩) D.f0.length p2, .slice (some ⟨g3, o3, none⟩) D.f0.length p3, .int .i64 z]) := by rw [hwz]; exact HA.out
        replace HR : Hid (BoxL wz (w.heap.size + 1) [.slice none 0 0, .slice none 0 0, .slice none 0 0, .slice none 0 0, .int .i64 0]) := by rw [hwz]; exact HR.out
        replace HU : Hid (KReads wz (.slice au nu ku) (D.f1.getD i [])) := by rw [hwz]; exact HU.out
        rw [← hwz]
        clear hwz
        refine wpAny_facts' 2 (Array.replicate 7 false) #[true, true, true, true, true, false, false] [0, 1, 2, 3, 4] (fun τ : Nat → Value => #[.agg #[.slice (some ⟨g0, o0, none⟩) D.f0.length p0, .slice (some ⟨g1, o1, none⟩) D.f0.length p1, .slice (some ⟨g2, o2, none⟩) D.f0.length p2, .slice (some ⟨g3, o3, none⟩) D.f0.length p3, .int .i64 z], .pointer (some ⟨w.heap.size, 0, none⟩), .pointer (some ⟨w.heap.size + 1, 0, none⟩), .pointer (some ⟨X, 0, none⟩), .int .i64 (i : Nat), .slice au nu ku, σ 0, σ 1, .slice a2 m2 q2, σ 3, σ 4, σ 5, .slice (some ⟨B, 0, none⟩) D.f0.length D.f0.length, σ 7, σ 8, .slice a9 m9 q9, σ 10, σ 11, .slice a12 m12 q12, σ 13, .int .i64 z, .agg #[.slice a2 m2 q2, .slice (some ⟨B, 0, none⟩) D.f0.length D.f0.length, .slice a9 m9 q9, .slice a12 m12 q12, .int .i64 z], .pointer (some ⟨w.heap.size, 1, none⟩), .slice (some ⟨g1, o1, none⟩) D.f0.length p1, .int .i64 (D.f0.length : Nat), .int .i64 (i : Nat), .bool true, .int .i64 (i : Nat), .pointer (some ⟨g1, o1 + i, none⟩), .slice au nu ku, τ 0, τ 1, τ 2, τ 3, τ 4, u35, u36, undef]) (likeG X i (.slice (some ⟨B, 0, none⟩) D.f0.length D.f0.length) (.slice au nu ku) (D.f1.getD i [])) (fun | 0 => u30 | 1 => u31 | 2 => u32 | 3 => u33 | 4 => u34 | _ => undef) rfl (by kernel_rfl) (by kernel_rfl) (by kernel_rfl) (by kernel_rfl) (by decide) likeG_keep (fun j hj i hi σ c w v r hne hd h => likeG_loc hj hne trivial h) ?_ ?_
        · intro τ c wy hb hf hin hdj
          obtain ⟨k4, ka4, a4, m4, q4, e4⟩ : likeG _ _ _ _ _ 4 τ c wy := hf 4 (by decide)
          have e1 : likeG _ _ _ _ _ 1 τ c wy := hf 1 (by decide)
          have e2 : likeG _ _ _ _ _ 2 τ c wy := hf 2 (by decide)
          simp only [likeG] at e1 e2
          have n4 := hin 4 (by decide)
          rw [e4] at k4 ka4
          clear hf hin hdj
          dsimp only
          rw [e1, e2, e4]
          have hL := HL.out
          rw [← HL1.out] at hL
          have hN := hL.next (by rw [HL1.out]; exact hlt) hb n4 k4 ka4
          have hrow := (hL.row.below hb).cell (by rw [length_qpart]) i (by rw [HL1.out]; exact hlt)
          rw [HL1.out] at hN
          obtain ⟨uo, cuo, fuo, _, _⟩ := hrow
          have HN := hid hN
          have op := onlyP_set wy B i (.slice a4 m4 q4)
          have HB6 := hid ((HB.out.trans (hb.mono HB.out.size)).trans (op.below (lo := w.heap.size) fun j e => by omega))
          have HA6 := hid ((HA.out.below hb HA.out.lt).of_block (op.2.1 _ (by omega)))
          have HR6 := hid ((HR.out.below hb HR.out.lt).of_block (op.2.1 _ (by omega)))
          clear hN hL hb n4 k4 ka4 HL HB HA HR HU e1 e2 e4 op
          refine wpAny_ready (rs := [5]) (by kernel_rfl) (by simp) ?_
          refine AllReady.cons rfl (fun K hK => ?_) AllReady.nil
          go_simp
          refine hK _ _ ?_
          clear hK K
          refine wpAny_ready (rs := [6]) (by kernel_rfl) (by simp) ?_
          refine AllReady.cons rfl (fun K hK => ?_) AllReady.nil
          go_simp
          refine hK _ _ ?_
          clear hK K
          refine wpAny_done (by kernel_rfl) ?_ _
          go_wp2
          go_roundw
          case rel => exact ⟨i + 1, _, by go_num, by omega, HN.out, HB6.out, HA6.out, HR6.out⟩
          case measure => simp [intOf]; omega
        · intro i' hi τ c wr hb hd
          simp only [List.mem_cons, List.not_mem_nil, or_false] at hi; rcases hi with rfl | rfl | rfl | rfl | rfl
          · skip
            clear hd
            refine StepF.of (a1 := ⟨#[.agg #[.slice (some ⟨g0, o0, none⟩) D.f0.length p0, .slice (some ⟨g1, o1, none⟩) D.f0.length p1, .slice (some ⟨g2, o2, none⟩) D.f0.length p2, .slice (some ⟨g3, o3, none⟩) D.f0.length p3, .int .i64 z], .pointer (some ⟨w.heap.size, 0, none⟩), .pointer (some ⟨w.heap.size + 1, 0, none⟩), .pointer (some ⟨X, 0, none⟩), .int .i64 (i : Nat), .slice au nu ku, σ 0, σ 1, .slice a2 m2 q2, σ 3, σ 4, σ 5, .slice (some ⟨B, 0, none⟩) D.f0.length D.f0.length, σ 7, σ 8, .slice a9 m9 q9, σ 10, σ 11, .slice a12 m12 q12, σ 13, .int .i64 z, .agg #[.slice a2 m2 q2, .slice (some ⟨B, 0, none⟩) D.f0.length D.f0.length, .slice a9 m9 q9, .slice a12 m12 q12, .int .i64 z], .pointer (some ⟨w.heap.size, 1, none⟩), .slice (some ⟨g1, o1, none⟩) D.f0.length p1, .int .i64 (D.f0.length : Nat), .int .i64 (i : Nat), .bool true, .int .i64 (i : Nat), .pointer (some ⟨g1, o1 + i, none⟩), .slice au nu ku, τ 0, τ 1, τ 2, τ 3, τ 4, u35, u36, undef], []⟩) rfl rfl (fun _ => rfl) (fun K hK => ?_)
            go_simp
            exact hK _ _ (Below.refl _ _) rfl
          · skip
            have f0 : likeG _ _ _ _ _ 0 τ c wr := hd 0 (by decide) (by decide)
            simp only [likeG] at f0
            clear hd
            refine StepF.of (a1 := ⟨#[.agg #[.slice (some ⟨g0, o0, none⟩) D.f0.length p0, .slice (some ⟨g1, o1, none⟩) D.f0.length p1, .slice (some ⟨g2, o2, none⟩) D.f0.length p2, .slice (some ⟨g3, o3, none⟩) D.f0.length p3, .int .i64 z], .pointer (some ⟨w.heap.size, 0, none⟩), .pointer (some ⟨w.heap.size + 1, 0, none⟩), .pointer (some ⟨X, 0, none⟩), .int .i64 (i : Nat), .slice au nu ku, σ 0, σ 1, .slice a2 m2 q2, σ 3, σ 4, σ 5, .slice (some ⟨B, 0, none⟩) D.f0.length D.f0.length, σ 7, σ 8, .slice a9 m9 q9, σ 10, σ 11, .slice a12 m12 q12, σ 13, .int .i64 z, .agg #[.slice a2 m2 q2, .slice (some ⟨B, 0, none⟩) D.f0.length D.f0.length, .slice a9 m9 q9, .slice a12 m12 q12, .int .i64 z], .pointer (some ⟨w.heap.size, 1, none⟩), .slice (some ⟨g1, o1, none⟩) D.f0.length p1, .int .i64 (D.f0.length : Nat), .int .i64 (i : Nat), .bool true, .int .i64 (i : Nat), .pointer (some ⟨g1, o1 + i, none⟩), .slice au nu ku, (.pointer (some ⟨X, 1, none⟩)), τ 1, τ 2, τ 3, τ 4, u35, u36, undef], []⟩) (by simp only [f0]) rfl (fun _ => rfl) (fun K hK => ?_)
            obtain ⟨y0, y1, y2, y3, y4⟩ := (HL.out.box.below hb HL.out.box.lt).five
            go_simp
            exact hK _ _ (Below.refl _ _) rfl
          · skip
            clear hd
            refine StepF.of (a1 := ⟨#[.agg #[.slice (some ⟨g0, o0, none⟩) D.f0.length p0, .slice (some ⟨g1, o1, none⟩) D.f0.length p1, .slice (some ⟨g2, o2, none⟩) D.f0.length p2, .slice (some ⟨g3, o3, none⟩) D.f0.length p3, .int .i64 z], .pointer (some ⟨w.heap.size, 0, none⟩), .pointer (some ⟨w.heap.size + 1, 0, none⟩), .pointer (some ⟨X, 0, none⟩), .int .i64 (i : Nat), .slice au nu ku, σ 0, σ 1, .slice a2 m2 q2, σ 3, σ 4, σ 5, .slice (some ⟨B, 0, none⟩) D.f0.length D.f0.length, σ 7, σ 8, .slice a9 m9 q9, σ 10, σ 11, .slice a12 m12 q12, σ 13, .int .i64 z, .agg #[.slice a2 m2 q2, .slice (some ⟨B, 0, none⟩) D.f0.length D.f0.length, .slice a9 m9 q9, .slice a12 m12 q12, .int .i64 z], .pointer (some ⟨w.heap.size, 1, none⟩), .slice (some ⟨g1, o1, none⟩) D.f0.length p1, .int .i64 (D.f0.length : Nat), .int .i64 (i : Nat), .bool true, .int .i64 (i : Nat), .pointer (some ⟨g1, o1 + i, none⟩), .slice au nu ku, τ 0, τ 1, τ 2, τ 3, τ 4, u35, u36, undef], []⟩) rfl rfl (fun _ => rfl) (fun K hK => ?_)
            go_simp
            exact hK _ _ (Below.refl _ _) rfl
          · skip
            clear hd
            refine StepF.of (a1 := ⟨#[.agg #[.slice (some ⟨g0, o0, none⟩) D.f0.length p0, .slice (some ⟨g1, o1, none⟩) D.f0.length p1, .slice (some ⟨g2, o2, none⟩) D.f0.length p2, .slice (some ⟨g3, o3, none⟩) D.f0.length p3, .int .i64 z], .pointer (some ⟨w.heap.size, 0, none⟩), .pointer (some ⟨w.heap.size + 1, 0, none⟩), .pointer (some ⟨X, 0, none⟩), .int .i64 (i : Nat), .slice au nu ku, σ 0, σ 1, .slice a2 m2 q2, σ 3, σ 4, σ 5, .slice (some ⟨B, 0, none⟩) D.f0.length D.f0.length, σ 7, σ 8, .slice a9 m9 q9, σ 10, σ 11, .slice a12 m12 q12, σ 13, .int .i64 z, .agg #[.slice a2 m2 q2, .slice (some ⟨B, 0, none⟩) D.f0.length D.f0.length, .slice a9 m9 q9, .slice a12 m12 q12, .int .i64 z], .pointer (some ⟨w.heap.size, 1, none⟩), .slice (some ⟨g1, o1, none⟩) D.f0.length p1, .int .i64 (D.f0.length : Nat), .int .i64 (i : Nat), .bool true, .int .i64 (i : Nat), .pointer (some ⟨g1, o1 + i, none⟩), .slice au nu ku, τ 0, τ 1, τ 2, τ 3, τ 4, u35, u36, undef], []⟩) rfl rfl (fun _ => rfl) (fun K hK => ?_)
            go_simp
            exact hK _ _ (Below.refl _ _) rfl
          · skip
            have f3 : likeG _ _ _ _ _ 3 τ c wr := hd 3 (by decide) (by decide)
            simp only [likeG] at f3
            clear hd
            refine StepF.of (a1 := ⟨#[.agg #[.slice (some ⟨g0, o0, none⟩) D.f0.length p0, .slice (some ⟨g1, o1, none⟩) D.f0.length p1, .slice (some ⟨g2, o2, none⟩) D.f0.length p2, .slice (some ⟨g3, o3, none⟩) D.f0.length p3, .int .i64 z], .pointer (some ⟨w.heap.size, 0, none⟩), .pointer (some ⟨w.heap.size + 1, 0, none⟩), .pointer (some ⟨X, 0, none⟩), .int .i64 (i : Nat), .slice au nu ku, σ 0, σ 1, .slice a2 m2 q2, σ 3, σ 4, σ 5, .slice (some ⟨B, 0, none⟩) D.f0.length D.f0.length, σ 7, σ 8, .slice a9 m9 q9, σ 10, σ 11, .slice a12 m12 q12, σ 13, .int .i64 z, .agg #[.slice a2 m2 q2, .slice (some ⟨B, 0, none⟩) D.f0.length D.f0.length, .slice a9 m9 q9, .slice a12 m12 q12, .int .i64 z], .pointer (some ⟨w.heap.size, 1, none⟩), .slice (some ⟨g1, o1, none⟩) D.f0.length p1, .int .i64 (D.f0.length : Nat), .int .i64 (i : Nat), .bool true, .int .i64 (i : Nat), .pointer (some ⟨g1, o1 + i, none⟩), .slice au nu ku, τ 0, τ 1, τ 2, (.slice au nu ku), τ 4, u35, u36, undef], []⟩) (by simp only [f3]) rfl (fun _ => rfl) (fun K hK => ?_)
            go_simp
            refine (kclone_any _ (D.f1.getD i []) _ (HU.out.below hb) (by omega)).mono ?_
            rintro e w2 ⟨u, rfl, hu, hua, b⟩
            exact hK u w2 b ⟨hu, hua, hu.sform⟩
      · obtain rfl : i = D.f0.length := by omega
        obtain ⟨y0, y1, y2, y3, y4⟩ := HL.out.box.five
        obtain ⟨t0, t1, t2, t3, t4⟩ := HR.out.five
        have x0 := (HR.out.cell 0 (by simp)).2
        have x1 := (HR.out.cell 1 (by simp)).2
        have x2 := (HR.out.cell 2 (by simp)).2
        have x3 := (HR.out.cell 3 (by simp)).2
        have x4 := (HR.out.cell 4 (by simp)).2
        have op := put5_only wr (w.heap.size + 1) (.slice a2 m2 q2) (.slice (some ⟨B, 0, none⟩) D.f0.length D.f0.length) (.slice a9 m9 q9) (.slice a12 m12 q12) (.int .i64 z)
        have bx := put5_box HR.out (.slice a2 m2 q2) (.slice (some ⟨B, 0, none⟩) D.f0.length D.f0.length) (.slice a9 m9 q9) (.slice a12 m12 q12) (.int .i64 z)
        have HT : Hid (TuOwnA (Iv w.heap.size (put5 wr (w.heap.size + 1) (.slice a2 m2 q2) (.slice (some ⟨B, 0, none⟩) D.f0.length D.f0.length) (.slice a9 m9 q9) (.slice a12 m12 q12) (.int .i64 z)).heap.size) (put5 wr (w.heap.size + 1) (.slice a2 m2 q2) (.slice (some ⟨B, 0, none⟩) D.f0.length D.f0.length) (.slice a9 m9 q9) (.slice a12 m12 q12) (.int .i64 z)) (.agg #[.slice a2 m2 q2, .slice (some ⟨B, 0, none⟩) D.f0.length D.f0.length, .slice a9 m9 q9, .slice a12 m12 q12, .int .i64 z]) D) := by
          have h := HL.out
          rw [← HL1.out] at h ⊢
          rw [HZ.out] at h ⊢
          exact LikeL.turns (R := w.heap.size + 1) h (by omega) (by rw [← HZ.out]; rw [HL1.out]; exact op) (by omega)
        have HB7 := hid (HB.out.trans (op.below fun j e => by omega))
        obtain ⟨z0, z1, z2, z3, z4⟩ := bx.five
        clear op bx HL HB HA HR
        go_wp2
        exact bodyPost_ret (v := .agg #[.slice a2 m2 q2, .slice (some ⟨B, 0, none⟩) D.f0.length D.f0.length, .slice a9 m9 q9, .slice a12 m12 q12, .int .i64 z]) (by simp [results, Try.results84, go_sem, z0, z1, z2, z3, z4]) rfl ⟨_, rfl, HT.out, HB7.out⟩
  · intro i hi σ c wr hb hd
    have hA := HA.out.below hb HA.out.lt
    obtain ⟨y0, y1, y2, y3, y4⟩ := hA.five
    simp only [List.mem_cons, List.not_mem_nil, or_false] at hi; rcases hi with rfl | rfl | rfl | rfl | rfl | rfl | rfl | rfl | rfl | rfl | rfl | rfl | rfl | rfl | rfl | rfl | rfl
    · skip
      clear hd
      refine StepF.of (a1 := ⟨#[.agg #[.slice (some ⟨g0, o0, none⟩) D.f0.length p0, .slice (some ⟨g1, o1, none⟩) D.f0.length p1, .slice (some ⟨g2, o2, none⟩) D.f0.length p2, .slice (some ⟨g3, o3, none⟩) D.f0.length p3, .int .i64 z], .pointer (some ⟨w.heap.size, 0, none⟩), .pointer (some ⟨w.heap.size + 1, 0, none⟩), σ 16, undef, undef, σ 0, σ 1, σ 2, σ 3, σ 4, σ 5, σ 6, σ 7, σ 8, σ 9, σ 10, σ 11, σ 12, σ 13, σ 14, σ 15, undef, undef, undef, undef, undef, undef, undef, undef, undef, undef, undef, undef, undef, undef, undef, undef], []⟩) rfl rfl (fun _ => rfl) (fun K hK => ?_)
      go_simp
      exact hK _ _ (Below.refl _ _) rfl
    · skip
      have f0 : likeF _ _ _ _ _ _ _ _ 0 σ c wr := hd 0 (by decide) (by decide)
      simp only [likeF] at f0
      clear hd
      refine StepF.of (a1 := ⟨#[.agg #[.slice (some ⟨g0, o0, none⟩) D.f0.length p0, .slice (some ⟨g1, o1, none⟩) D.f0.length p1, .slice (some ⟨g2, o2, none⟩) D.f0.length p2, .slice (some ⟨g3, o3, none⟩) D.f0.length p3, .int .i64 z], .pointer (some ⟨w.heap.size, 0, none⟩), .pointer (some ⟨w.heap.size + 1, 0, none⟩), σ 16, undef, undef, (.pointer (some ⟨w.heap.size, 0, none⟩)), σ 1, σ 2, σ 3, σ 4, σ 5, σ 6, σ 7, σ 8, σ 9, σ 10, σ 11, σ 12, σ 13, σ 14, σ 15, undef, undef, undef, undef, undef, undef, undef, undef, undef, undef, undef, undef, undef, undef, undef, undef], []⟩) (by simp only [f0]) rfl (fun _ => rfl) (fun K hK => ?_)
      go_simp
      exact hK _ _ (Below.refl _ _) rfl
    · skip
      have f1 : likeF _ _ _ _ _ _ _ _ 1 σ c wr := hd 1 (by decide) (by decide)
      simp only [likeF] at f1
      clear hd
      refine StepF.of (a1 := ⟨#[.agg #[.slice (some ⟨g0, o0, none⟩) D.f0.length p0, .slice (some ⟨g1, o1, none⟩) D.f0.length p1, .slice (some ⟨g2, o2, none⟩) D.f0.length p2, .slice (some ⟨g3, o3, none⟩) D.f0.length p3, .int .i64 z], .pointer (some ⟨w.heap.size, 0, none⟩), .pointer (some ⟨w.heap.size + 1, 0, none⟩), σ 16, undef, undef, σ 0, (.slice (some ⟨g0, o0, none⟩) D.f0.length p0), σ 2, σ 3, σ 4, σ 5, σ 6, σ 7, σ 8, σ 9, σ 10, σ 11, σ 12, σ 13, σ 14, σ 15, undef, undef, undef, undef, undef, undef, undef, undef, undef, undef, undef, undef, undef, undef, undef, undef], []⟩) (by simp only [f1]) rfl (fun _ => rfl) (fun K hK => ?_)
      go_simp
      refine (kclone_any _ D.f0 _ (R0.out.below (BW.out.trans (hb.mono BW.out.size))) (by have := hn; omega)).mono ?_
      rintro e w2 ⟨u, rfl, hu, _, b⟩
      exact hK u w2 b ⟨hu, hu.sform⟩
    · skip
      clear hd
      refine StepF.of (a1 := ⟨#[.agg #[.slice (some ⟨g0, o0, none⟩) D.f0.length p0, .slice (some ⟨g1, o1, none⟩) D.f0.length p1, .slice (some ⟨g2, o2, none⟩) D.f0.length p2, .slice (some ⟨g3, o3, none⟩) D.f0.length p3, .int .i64 z], .pointer (some ⟨w.heap.size, 0, none⟩), .pointer (some ⟨w.heap.size + 1, 0, none⟩), σ 16, undef, undef, σ 0, σ 1, σ 2, σ 3, σ 4, σ 5, σ 6, σ 7, σ 8, σ 9, σ 10, σ 11, σ 12, σ 13, σ 14, σ 15, undef, undef, undef, undef, undef, undef, undef, undef, undef, undef, undef, undef, undef, undef, undef, undef], []⟩) rfl rfl (fun _ => rfl) (fun K hK => ?_)
      go_simp
      exact hK _ _ (Below.refl _ _) rfl
    · skip
      have f3 : likeF _ _ _ _ _ _ _ _ 3 σ c wr := hd 3 (by decide) (by decide)
      simp only [likeF] at f3
      clear hd
      refine StepF.of (a1 := ⟨#[.agg #[.slice (some ⟨g0, o0, none⟩) D.f0.length p0, .slice (some ⟨g1, o1, none⟩) D.f0.length p1, .slice (some ⟨g2, o2, none⟩) D.f0.length p2, .slice (some ⟨g3, o3, none⟩) D.f0.length p3, .int .i64 z], .pointer (some ⟨w.heap.size, 0, none⟩), .pointer (some ⟨w.heap.size + 1, 0, none⟩), σ 16, undef, undef, σ 0, σ 1, σ 2, (.pointer (some ⟨w.heap.size, 1, none⟩)), σ 4, σ 5, σ 6, σ 7, σ 8, σ 9, σ 10, σ 11, σ 12, σ 13, σ 14, σ 15, undef, undef, undef, undef, undef, undef, undef, undef, undef, undef, undef, undef, undef, undef, undef, undef], []⟩) (by simp only [f3]) rfl (fun _ => rfl) (fun K hK => ?_)
      go_simp
      exact hK _ _ (Below.refl _ _) rfl
    · skip
      have f4 : likeF _ _ _ _ _ _ _ _ 4 σ c wr := hd 4 (by decide) (by decide)
      simp only [likeF] at f4
      clear hd
      refine StepF.of (a1 := ⟨#[.agg #[.slice (some ⟨g0, o0, none⟩) D.f0.length p0, .slice (some ⟨g1, o1, none⟩) D.f0.length p1, .slice (some ⟨g2, o2, none⟩) D.f0.length p2, .slice (some ⟨g3, o3, none⟩) D.f0.length p3, .int .i64 z], .pointer (some ⟨w.heap.size, 0, none⟩), .pointer (some ⟨w.heap.size + 1, 0, none⟩), σ 16, undef, undef, σ 0, σ 1, σ 2, σ 3, (.slice (some ⟨g1, o1, none⟩) D.f0.length p1), σ 5, σ 6, σ 7, σ 8, σ 9, σ 10, σ 11, σ 12, σ 13, σ 14, σ 15, undef, undef, undef, undef, undef, undef, undef, undef, undef, undef, undef, undef, undef, undef, undef, undef], []⟩) (by simp only [f4]) rfl (fun _ => rfl) (fun K hK => ?_)
      go_simp
      exact hK _ _ (Below.refl _ _) rfl
    · skip
      have f5 : likeF _ _ _ _ _ _ _ _ 5 σ c wr := hd 5 (by decide) (by decide)
      simp only [likeF] at f5
      clear hd
      refine StepF.of (a1 := ⟨#[.agg #[.slice (some ⟨g0, o0, none⟩) D.f0.length p0, .slice (some ⟨g1, o1, none⟩) D.f0.length p1, .slice (some ⟨g2, o2, none⟩) D.f0.length p2, .slice (some ⟨g3, o3, none⟩) D.f0.length p3, .int .i64 z], .pointer (some ⟨w.heap.size, 0, none⟩), .pointer (some ⟨w.heap.size + 1, 0, none⟩), σ 16, undef, undef, σ 0, σ 1, σ 2, σ 3, σ 4, (.int .i64 (D.f0.length : Nat)), σ 6, σ 7, σ 8, σ 9, σ 10, σ 11, σ 12, σ 13, σ 14, σ 15, undef, undef, undef, undef, undef, undef, undef, undef, undef, undef, undef, undef, undef, undef, undef, undef], []⟩) (by simp only [f5]) rfl (fun _ => rfl) (fun K hK => ?_)
      have kq := qmade wr D.f0.length D.f1 HL1.out (by omega)
      have ka := qmade_app wr D.f0.length D.f1 HL1.out
      go_simp
      exact hK _ _ ((Below.refl _ _).alloc (Nat.le_refl _) _) ⟨⟨by simpa [upd] using kq, by simpa [upd] using ka⟩, by simp [upd], by simp [upd]⟩
    · skip
      clear hd
      refine StepF.of (a1 := ⟨#[.agg #[.slice (some ⟨g0, o0, none⟩) D.f0.length p0, .slice (some ⟨g1, o1, none⟩) D.f0.length p1, .slice (some ⟨g2, o2, none⟩) D.f0.length p2, .slice (some ⟨g3, o3, none⟩) D.f0.length p3, .int .i64 z], .pointer (some ⟨w.heap.size, 0, none⟩), .pointer (some ⟨w.heap.size + 1, 0, none⟩), σ 16, undef, undef, σ 0, σ 1, σ 2, σ 3, σ 4, σ 5, σ 6, σ 7, σ 8, σ 9, σ 10, σ 11, σ 12, σ 13, σ 14, σ 15, undef, undef, undef, undef, undef, undef, undef, undef, undef, undef, undef, undef, undef, undef, undef, undef], []⟩) rfl rfl (fun _ => rfl) (fun K hK => ?_)
      go_simp
      exact hK _ _ (Below.refl _ _) rfl
    · skip
      have f7 : likeF _ _ _ _ _ _ _ _ 7 σ c wr := hd 7 (by decide) (by decide)
      simp only [likeF] at f7
      clear hd
      refine StepF.of (a1 := ⟨#[.agg #[.slice (some ⟨g0, o0, none⟩) D.f0.length p0, .slice (some ⟨g1, o1, none⟩) D.f0.length p1, .slice (some ⟨g2, o2, none⟩) D.f0.length p2, .slice (some ⟨g3, o3, none⟩) D.f0.length p3, .int .i64 z], .pointer (some ⟨w.heap.size, 0, none⟩), .pointer (some ⟨w.heap.size + 1, 0, none⟩), σ 16, undef, undef, σ 0, σ 1, σ 2, σ 3, σ 4, σ 5, σ 6, (.pointer (some ⟨w.heap.size, 2, none⟩)), σ 8, σ 9, σ 10, σ 11, σ 12, σ 13, σ 14, σ 15, undef, undef, undef, undef, undef, undef, undef, undef, undef, undef, undef, undef, undef, undef, undef, undef], []⟩) (by simp only [f7]) rfl (fun _ => rfl) (fun K hK => ?_)
      go_simp
      exact hK _ _ (Below.refl _ _) rfl
    · skip
      have f8 : likeF _ _ _ _ _ _ _ _ 8 σ c wr := hd 8 (by decide) (by decide)
      simp only [likeF] at f8
      clear hd
      refine StepF.of (a1 := ⟨#[.agg #[.slice (some ⟨g0, o0, none⟩) D.f0.length p0, .slice (some ⟨g1, o1, none⟩) D.f0.length p1, .slice (some ⟨g2, o2, none⟩) D.f0.length p2, .slice (some ⟨g3, o3, none⟩) D.f0.length p3, .int .i64 z], .pointer (some ⟨w.heap.size, 0, none⟩), .pointer (some ⟨w.heap.size + 1, 0, none⟩), σ 16, undef, undef, σ 0, σ 1, σ 2, σ 3, σ 4, σ 5, σ 6, σ 7, (.slice (some ⟨g2, o2, none⟩) D.f0.length p2), σ 9, σ 10, σ 11, σ 12, σ 13, σ 14, σ 15, undef, undef, undef, undef, undef, undef, undef, undef, undef, undef, undef, undef, undef, undef, undef, undef], []⟩) (by simp only [f8]) rfl (fun _ => rfl) (fun K hK => ?_)
      go_simp
      refine (kclone_any _ D.f2 _ (R2.out.below (BW.out.trans (hb.mono BW.out.size))) (by have := HL2.out; omega)).mono ?_
      rintro e w2 ⟨u, rfl, hu, _, b⟩
      exact hK u w2 b ⟨hu, hu.sform⟩
    · skip
      clear hd
      refine StepF.of (a1 := ⟨#[.agg #[.slice (some ⟨g0, o0, none⟩) D.f0.length p0, .slice (some ⟨g1, o1, none⟩) D.f0.length p1, .slice (some ⟨g2, o2, none⟩) D.f0.length p2, .slice (some ⟨g3, o3, none⟩) D.f0.length p3, .int .i64 z], .pointer (some ⟨w.heap.size, 0, none⟩), .pointer (some ⟨w.heap.size + 1, 0, none⟩), σ 16, undef, undef, σ 0, σ 1, σ 2, σ 3, σ 4, σ 5, σ 6, σ 7, σ 8, σ 9, σ 10, σ 11, σ 12, σ 13, σ 14, σ 15, undef, undef, undef, undef, undef, undef, undef, undef, undef, undef, undef, undef, undef, undef, undef, undef], []⟩) rfl rfl (fun _ => rfl) (fun K hK => ?_)
      go_simp
      exact hK _ _ (Below.refl _ _) rfl
    · skip
      have f10 : likeF _ _ _ _ _ _ _ _ 10 σ c wr := hd 10 (by decide) (by decide)
      simp only [likeF] at f10
      clear hd
      refine StepF.of (a1 := ⟨#[.agg #[.slice (some ⟨g0, o0, none⟩) D.f0.length p0, .slice (some ⟨g1, o1, none⟩) D.f0.length p1, .slice (some ⟨g2, o2, none⟩) D.f0.length p2, .slice (some ⟨g3, o3, none⟩) D.f0.length p3, .int .i64 z], .pointer (some ⟨w.heap.size, 0, none⟩), .pointer (some ⟨w.heap.size + 1, 0, none⟩), σ 16, undef, undef, σ 0, σ 1, σ 2, σ 3, σ 4, σ 5, σ 6, σ 7, σ 8, σ 9, (.pointer (some ⟨w.heap.size, 3, none⟩)), σ 11, σ 12, σ 13, σ 14, σ 15, undef, undef, undef, undef, undef, undef, undef, undef, undef, undef, undef, undef, undef, undef, undef, undef], []⟩) (by simp only [f10]) rfl (fun _ => rfl) (fun K hK => ?_)
      go_simp
      exact hK _ _ (Below.refl _ _) rfl
    · skip
      have f11 : likeF _ _ _ _ _ _ _ _ 11 σ c wr := hd 11 (by decide) (by decide)
      simp only [likeF] at f11
      clear hd
      refine StepF.of (a1 := ⟨#[.agg #[.slice (some ⟨g0, o0, none⟩) D.f0.length p0, .slice (some ⟨g1, o1, none⟩) D.f0.length p1, .slice (some ⟨g2, o2, none⟩) D.f0.length p2, .slice (some ⟨g3, o3, none⟩) D.f0.length p3, .int .i64 z], .pointer (some ⟨w.heap.size, 0, none⟩), .pointer (some ⟨w.heap.size + 1, 0, none⟩), σ 16, undef, undef, σ 0, σ 1, σ 2, σ 3, σ 4, σ 5, σ 6, σ 7, σ 8, σ 9, σ 10, (.slice (some ⟨g3, o3, none⟩) D.f0.length p3), σ 12, σ 13, σ 14, σ 15, undef, undef, undef, undef, undef, undef, undef, undef, undef, undef, undef, undef, undef, undef, undef, undef], []⟩) (by simp only [f11]) rfl (fun _ => rfl) (fun K hK => ?_)
      go_simp
      refine (kclone_any _ D.f3 _ (R3.out.below (BW.out.trans (hb.mono BW.out.size))) (by have := HL3.out; omega)).mono ?_
      rintro e w2 ⟨u, rfl, hu, _, b⟩
      exact hK u w2 b ⟨hu, hu.sform⟩
    · skip
      clear hd
      refine StepF.of (a1 := ⟨#[.agg #[.slice (some ⟨g0, o0, none⟩) D.f0.length p0, .slice (some ⟨g1, o1, none⟩) D.f0.length p1, .slice (some ⟨g2, o2, none⟩) D.f0.length p2, .slice (some ⟨g3, o3, none⟩) D.f0.length p3, .int .i64 z], .pointer (some ⟨w.heap.size, 0, none⟩), .pointer (some ⟨w.heap.size + 1, 0, none⟩), σ 16, undef, undef, σ 0, σ 1, σ 2, σ 3, σ 4, σ 5, σ 6, σ 7, σ 8, σ 9, σ 10, σ 11, σ 12, σ 13, σ 14, σ 15, undef, undef, undef, undef, undef, undef, undef, undef, undef, undef, undef, undef, undef, undef, undef, undef], []⟩) rfl rfl (fun _ => rfl) (fun K hK => ?_)
      go_simp
      exact hK _ _ (Below.refl _ _) rfl
    · skip
      have f13 : likeF _ _ _ _ _ _ _ _ 13 σ c wr := hd 13 (by decide) (by decide)
      simp only [likeF] at f13
      clear hd
      refine StepF.of (a1 := ⟨#[.agg #[.slice (some ⟨g0, o0, none⟩) D.f0.length p0, .slice (some ⟨g1, o1, none⟩) D.f0.length p1, .slice (some ⟨g2, o2, none⟩) D.f0.length p2, .slice (some ⟨g3, o3, none⟩) D.f0.length p3, .int .i64 z], .pointer (some ⟨w.heap.size, 0, none⟩), .pointer (some ⟨w.heap.size + 1, 0, none⟩), σ 16, undef, undef, σ 0, σ 1, σ 2, σ 3, σ 4, σ 5, σ 6, σ 7, σ 8, σ 9, σ 10, σ 11, σ 12, (.pointer (some ⟨w.heap.size, 4, none⟩)), σ 14, σ 15, undef, undef, undef, undef, undef, undef, undef, undef, undef, undef, undef, undef, undef, undef, undef, undef], []⟩) (by simp only [f13]) rfl (fun _ => rfl) (fun K hK => ?_)
      go_simp
      exact hK _ _ (Below.refl _ _) rfl
    · skip
      have f2 : likeF _ _ _ _ _ _ _ _ 2 σ c wr := hd 2 (by decide) (by decide)
      obtain ⟨_, a2, m2, q2, f2⟩ := f2
      have f6 : likeF _ _ _ _ _ _ _ _ 6 σ c wr := hd 6 (by decide) (by decide)
      obtain ⟨_, f6, _⟩ := f6
      have f9 : likeF _ _ _ _ _ _ _ _ 9 σ c wr := hd 9 (by decide) (by decide)
      obtain ⟨_, a9, m9, q9, f9⟩ := f9
      have f12 : likeF _ _ _ _ _ _ _ _ 12 σ c wr := hd 12 (by decide) (by decide)
      obtain ⟨_, a12, m12, q12, f12⟩ := f12
      have f14 : likeF _ _ _ _ _ _ _ _ 14 σ c wr := hd 14 (by decide) (by decide)
      simp only [likeF] at f14
      clear hd
      refine StepF.of (a1 := ⟨#[.agg #[.slice (some ⟨g0, o0, none⟩) D.f0.length p0, .slice (some ⟨g1, o1, none⟩) D.f0.length p1, .slice (some ⟨g2, o2, none⟩) D.f0.length p2, .slice (some ⟨g3, o3, none⟩) D.f0.length p3, .int .i64 z], .pointer (some ⟨w.heap.size, 0, none⟩), .pointer (some ⟨w.heap.size + 1, 0, none⟩), σ 16, undef, undef, σ 0, σ 1, (.slice a2 m2 q2), σ 3, σ 4, σ 5, (.slice (some ⟨(c 6).1, 0, none⟩) D.f0.length D.f0.length), σ 7, σ 8, (.slice a9 m9 q9), σ 10, σ 11, (.slice a12 m12 q12), σ 13, (.int .i64 z), σ 15, undef, undef, undef, undef, undef, undef, undef, undef, undef, undef, undef, undef, undef, undef, undef, undef], []⟩) (by simp only [f2, f6, f9, f12, f14]) rfl (fun _ => rfl) (fun K hK => ?_)
      go_simp
      exact hK _ _ (Below.refl _ _) (by show _ = Value.agg #[σ 2, σ 6, σ 9, σ 12, σ 14]; rw [f2, f6, f9, f12, f14]; rfl)
    · skip
      clear hd
      refine StepF.of (a1 := ⟨#[.agg #[.slice (some ⟨g0, o0, none⟩) D.f0.length p0, .slice (some ⟨g1, o1, none⟩) D.f0.length p1, .slice (some ⟨g2, o2, none⟩) D.f0.length p2, .slice (some ⟨g3, o3, none⟩) D.f0.length p3, .int .i64 z], .pointer (some ⟨w.heap.size, 0, none⟩), .pointer (some ⟨w.heap.size + 1, 0, none⟩), σ 16, undef, undef, σ 0, σ 1, σ 2, σ 3, σ 4, σ 5, σ 6, σ 7, σ 8, σ 9, σ 10, σ 11, σ 12, σ 13, σ 14, σ 15, undef, undef, undef, undef, undef, undef, undef, undef, undef, undef, undef, undef, undef, undef, undef, undef], []⟩) rfl rfl (fun _ => rfl) (fun K hK => ?_)
      go_simp
      exact hK _ _ ((Below.refl _ _).alloc (Nat.le_refl _) _) ⟨rfl, boxL_new wr [.slice none 0 0, .slice none 0 0, .slice none 0 0, .slice none 0 0, .int .i64 0] 55, by simp [upd]⟩
end Go.Proofs.Ytepnhbicmlfnhac
