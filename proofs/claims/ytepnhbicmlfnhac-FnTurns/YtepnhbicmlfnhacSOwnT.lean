/-
  spec.l8Own: turns copied into memory of their own. Nothing old is written.
-/
import Derived.Test.YtepnhbicmlfnhacInfoII
import Derived.Test.YtepnhbicmlfnhacTurnFns
import Derived.Test.YtepnhbicmlfnhacRegFacts
import Derived.Test.YtepnhbicmlfnhacSOwnL
import Derived.Deep.RegionLawGrows
namespace Go.Proofs.Ytepnhbicmlfnhac
open Go.RowKit

/-- What the operations of the first statement make. -/
def ownF (A : Nat) (v0 v2 v3 : Value) (z : Int) (D : TuD) : Nat → (Nat → Value) → (Nat → Nat × Nat) → World → Prop
  | 0, σ, _, _ => ∃ b, σ 0 = .slice (some ⟨b, 0, none⟩) 0 0
  | 1, σ, _, _ => σ 1 = .pointer (some ⟨A, 0, none⟩)
  | 2, σ, _, _ => σ 2 = v0
  | 3, σ, c, w => KOwn (c 3).1 (c 3).2 w (σ 3) D.f0 ∧ ∃ a n k, σ 3 = .slice a n k
  | 4, σ, _, _ => ∃ b, σ 4 = .slice (some ⟨b, 0, none⟩) 0 0
  | 5, σ, _, _ => σ 5 = .pointer (some ⟨A, 2, none⟩)
  | 6, σ, _, _ => σ 6 = v2
  | 7, σ, c, w => KOwn (c 7).1 (c 7).2 w (σ 7) D.f2 ∧ ∃ a n k, σ 7 = .slice a n k
  | 8, σ, _, _ => ∃ b, σ 8 = .slice (some ⟨b, 0, none⟩) 0 0
  | 9, σ, _, _ => σ 9 = .pointer (some ⟨A, 3, none⟩)
  | 10, σ, _, _ => σ 10 = v3
  | 11, σ, c, w => KOwn (c 11).1 (c 11).2 w (σ 11) D.f3 ∧ ∃ a n k, σ 11 = .slice a n k
  | 12, σ, _, _ => σ 12 = .pointer (some ⟨A, 4, none⟩)
  | 13, σ, _, _ => σ 13 = .int .i64 z
  | 14, σ, _, _ => σ 14 = .agg #[σ 3, .slice none 0 0, σ 7, σ 11, σ 13]
  | 15, σ, c, w => σ 15 = .pointer (some ⟨(c 15).1, 0, none⟩) ∧ BoxL w (c 15).1 [.slice none 0 0, .slice none 0 0, .slice none 0 0, .slice none 0 0, .int .i64 0] ∧ (c 15).2 = (c 15).1 + 1
  | _ + 16, _, _, _ => True
theorem ownF_keep {A : Nat} {v0 v2 v3 : Value} {z : Int} {D : TuD} : ∀ j ∈ [0, 1, 2, 3, 4, 5, 6, 7, 8, 9, 10, 11, 12, 13, 14, 15], ∀ σ c w w', ownF A v0 v2 v3 z D j σ c w → Below w.heap.size w w' → ownF A v0 v2 v3 z D j σ c w' := by
  intro j hj σ c w w' h hb
  simp only [List.mem_cons, List.not_mem_nil, or_false] at hj; rcases hj with rfl | rfl | rfl | rfl | rfl | rfl | rfl | rfl | rfl | rfl | rfl | rfl | rfl | rfl | rfl | rfl
  · exact h
  · exact h
  · exact h
  · exact ⟨h.1.below hb, h.2⟩
  · exact h
  · exact h
  · exact h
  · exact ⟨h.1.below hb, h.2⟩
  · exact h
  · exact h
  · exact h
  · exact ⟨h.1.below hb, h.2⟩
  · exact h
  · exact h
  · exact h
  · exact ⟨h.1, h.2.1.below hb h.2.1.lt, h.2.2⟩
theorem ownF_loc {A : Nat} {v0 v2 v3 : Value} {z : Int} {D : TuD} {j i : Nat} {σ : Nat → Value} {c : Nat → Nat × Nat} {w : World} {v : Value} {r : Nat × Nat} (hj : j ∈ [0, 1, 2, 3, 4, 5, 6, 7, 8, 9, 10, 11, 12, 13, 14, 15]) (hne : i ≠ j) (hd : j = 14 → i ≠ 3 ∧ i ≠ 7 ∧ i ≠ 11 ∧ i ≠ 13) (h : ownF A v0 v2 v3 z D j σ c w) : ownF A v0 v2 v3 z D j (upd σ i v) (upd c i r) w := by
  simp only [List.mem_cons, List.not_mem_nil, or_false] at hj; rcases hj with rfl | rfl | rfl | rfl | rfl | rfl | rfl | rfl | rfl | rfl | rfl | rfl | rfl | rfl | rfl | rfl
  · simp only [ownF, upd_other _ _ (Ne.symm hne)] at h ⊢
    exact h
  · simp only [ownF, upd_other _ _ (Ne.symm hne)] at h ⊢
    exact h
  · simp only [ownF, upd_other _ _ (Ne.symm hne)] at h ⊢
    exact h
  · simp only [ownF, upd_other _ _ (Ne.symm hne)] at h ⊢
    exact h
  · simp only [ownF, upd_other _ _ (Ne.symm hne)] at h ⊢
    exact h
  · simp only [ownF, upd_other _ _ (Ne.symm hne)] at h ⊢
    exact h
  · simp only [ownF, upd_other _ _ (Ne.symm hne)] at h ⊢
    exact h
  · simp only [ownF, upd_other _ _ (Ne.symm hne)] at h ⊢
    exact h
  · simp only [ownF, upd_other _ _ (Ne.symm hne)] at h ⊢
    exact h
  · simp only [ownF, upd_other _ _ (Ne.symm hne)] at h ⊢
    exact h
  · simp only [ownF, upd_other _ _ (Ne.symm hne)] at h ⊢
    exact h
  · simp only [ownF, upd_other _ _ (Ne.symm hne)] at h ⊢
    exact h
  · simp only [ownF, upd_other _ _ (Ne.symm hne)] at h ⊢
    exact h
  · simp only [ownF, upd_other _ _ (Ne.symm hne)] at h ⊢
    exact h
  · obtain ⟨d3, d7, d11, d13⟩ := hd rfl
    simp only [ownF, upd_other _ _ (Ne.symm hne), upd_other _ _ (Ne.symm d3), upd_other _ _ (Ne.symm d7), upd_other _ _ (Ne.symm d11), upd_other _ _ (Ne.symm d13)] at h ⊢
    exact h
  · simp only [ownF, upd_other _ _ (Ne.symm hne)] at h ⊢
    exact h
set_option maxRecDepth 100000 in
set_option maxHeartbeats 16000000 in
theorem sown_any (v : Value) (D : TuD) (w : World) (hr : TuReads w v D) (hg : GoodT D) :
    Calls Try.prog 88 #[v] w fun e w' => ∃ u0, e = .returned u0 ∧ TuOwnA (Iv w.heap.size w'.heap.size) w' u0 D ∧ Below w.heap.size w w' := by
  obtain ⟨v0, v1, v2, v3, rfl, r0, r1, r2, r3⟩ := hr
  have hn := hg.n
  have L1 := hg.l1
  have L2 := hg.l2
  have L3 := hg.l3
  have HG := hid hg
  obtain ⟨g0, o0, p0, e0, h0⟩ := r0.cells 0 (by omega)
  obtain ⟨g2, o2, p2, e2, h2⟩ := r2.cells 0 (by omega)
  obtain ⟨g3, o3, p3, e3, h3⟩ := r3.cells 0 (by omega)
  obtain ⟨g1, o1, p1, e1, h1⟩ := r1.cells 0 (by omega)
  rw [L2] at e2
  rw [L3] at e3
  have H0 := hid h0
  have H1 := hid h1
  have H2 := hid h2
  have H3 := hid h3
  have HL1 := hid L1
  have HL2 := hid L2
  have HL3 := hid L3
  rw [L1] at e1
  subst e0 e1 e2 e3
  obtain ⟨z, hz⟩ : ∃ z, z = D.f4 := ⟨_, rfl⟩
  have HZ := hid hz
  rw [← hz]
  obtain ⟨i0, hi, hz0, hz1, hz2⟩ := info_parts info_int
  clear r0 r1 r2 r3 h0 h1 h2 h3 L1 L2 L3 hg hz
  have PA := hid (boxL_new w [.slice (some ⟨g0, o0, none⟩) D.f0.length p0, .slice (some ⟨g1, o1, none⟩) D.f0.length p1, .slice (some ⟨g2, o2, none⟩) D.f0.length p2, .slice (some ⟨g3, o3, none⟩) D.f0.length p3, .int .i64 z] 55)
  have PR := hid (boxL_new (w.alloc (.cells #[.slice (some ⟨g0, o0, none⟩) D.f0.length p0, .slice (some ⟨g1, o1, none⟩) D.f0.length p1, .slice (some ⟨g2, o2, none⟩) D.f0.length p2, .slice (some ⟨g3, o3, none⟩) D.f0.length p3, .int .i64 z] 55)) [.slice none 0 0, .slice none 0 0, .slice none 0 0, .slice none 0 0, .int .i64 0] 55)
  replace PA := hid (PA.out.below ((Below.refl _ _).alloc (Nat.le_refl _) (.cells #[.slice none 0 0, .slice none 0 0, .slice none 0 0, .slice none 0 0, .int .i64 0] 55)) PA.out.lt)
  rw [World.size_alloc] at PR
  have B : Hid (Below w.heap.size w ((w.alloc (.cells #[.slice (some ⟨g0, o0, none⟩) D.f0.length p0, .slice (some ⟨g1, o1, none⟩) D.f0.length p1, .slice (some ⟨g2, o2, none⟩) D.f0.length p2, .slice (some ⟨g3, o3, none⟩) D.f0.length p3, .int .i64 z] 55)).alloc (.cells #[.slice none 0 0, .slice none 0 0, .slice none 0 0, .slice none 0 0, .int .i64 0] 55))) := ((Below.refl _ _).alloc (Nat.le_refl _) _).alloc (by simp) _
  have hsz : ((w.alloc (.cells #[.slice (some ⟨g0, o0, none⟩) D.f0.length p0, .slice (some ⟨g1, o1, none⟩) D.f0.length p1, .slice (some ⟨g2, o2, none⟩) D.f0.length p2, .slice (some ⟨g3, o3, none⟩) D.f0.length p3, .int .i64 z] 55)).alloc (.cells #[.slice none 0 0, .slice none 0 0, .slice none 0 0, .slice none 0 0, .int .i64 0] 55)).heap.size = w.heap.size + 2 := by rw [World.size_alloc, World.size_alloc]
  go_enter Try.func88, Try.ntmps88
  go_wp2_with fail
  refine wp_region_any (by kernel_rfl) ?_
  change wpAny _ _ _ _ _ _ _ (World.drew _)
  obtain ⟨W, hW⟩ : ∃ W, W = World.drew ((w.alloc (.cells #[.slice (some ⟨g0, o0, none⟩) D.f0.length p0, .slice (some ⟨g1, o1, none⟩) D.f0.length p1, .slice (some ⟨g2, o2, none⟩) D.f0.length p2, .slice (some ⟨g3, o3, none⟩) D.f0.length p3, .int .i64 z] 55)).alloc (.cells #[.slice none 0 0, .slice none 0 0, .slice none 0 0, .slice none 0 0, .int .i64 0] 55)) := ⟨_, rfl⟩
  have BW : Hid (Below w.heap.size w W) := by rw [hW]; exact B.out.drew
  have hWs : W.heap.size = w.heap.size + 2 := by rw [hW]; exact hsz
  have HA : Hid (BoxL W w.heap.size [.slice (some ⟨g0, o0, none⟩) D.f0.length p0, .slice (some ⟨g1, o1, none⟩) D.f0.length p1, .slice (some ⟨g2, o2, none⟩) D.f0.length p2, .slice (some ⟨g3, o3, none⟩) D.f0.length p3, .int .i64 z]) := by rw [hW]; exact PA.out
  have HR : Hid (BoxL W (w.heap.size + 1) [.slice none 0 0, .slice none 0 0, .slice none 0 0, .slice none 0 0, .int .i64 0]) := by rw [hW]; exact PR.out
  rw [← hW]
  clear hW hsz PA PR B
  refine wpAny_facts' 1 (Array.replicate 17 false) #[true, true, true, true, true, true, true, true, true, true, true, true, true, true, true, true, false] [0, 1, 2, 3, 4, 5, 6, 7, 8, 9, 10, 11, 12, 13, 14, 15] (fun σ => #[.agg #[.slice (some ⟨g0, o0, none⟩) D.f0.length p0, .slice (some ⟨g1, o1, none⟩) D.f0.length p1, .slice (some ⟨g2, o2, none⟩) D.f0.length p2, .slice (some ⟨g3, o3, none⟩) D.f0.length p3, .int .i64 z], .pointer (some ⟨w.heap.size, 0, none⟩), .pointer (some ⟨w.heap.size + 1, 0, none⟩), σ 15, undef, undef, σ 0, σ 1, σ 2, σ 3, σ 4, σ 5, σ 6, σ 7, σ 8, σ 9, σ 10, σ 11, σ 12, σ 13, σ 14, undef, undef, undef, undef, undef, undef, undef, undef, undef, undef, undef, undef, undef, undef, undef, undef, undef]) (ownF w.heap.size (.slice (some ⟨g0, o0, none⟩) D.f0.length p0) (.slice (some ⟨g2, o2, none⟩) D.f0.length p2) (.slice (some ⟨g3, o3, none⟩) D.f0.length p3) z D) (fun _ => undef) rfl (by kernel_rfl) (by kernel_rfl) (by kernel_rfl) (by kernel_rfl) (by decide) ownF_keep (fun j hj i hi σ c w v r hne hd h => ownF_loc hj hne (fun e => by subst e; exact ⟨(hd 3 (by decide)).symm, (hd 7 (by decide)).symm, (hd 11 (by decide)).symm, (hd 13 (by decide)).symm⟩) h) ?_ ?_
  · intro σ c wr hb hf hin hdj
    obtain ⟨k3, a3, m3, q3, e3⟩ : ownF _ _ _ _ _ _ 3 σ c wr := hf 3 (by decide)
    obtain ⟨k7, a7, m7, q7, e7⟩ : ownF _ _ _ _ _ _ 7 σ c wr := hf 7 (by decide)
    obtain ⟨k11, a11, m11, q11, e11⟩ : ownF _ _ _ _ _ _ 11 σ c wr := hf 11 (by decide)
    have e13 : ownF _ _ _ _ _ _ 13 σ c wr := hf 13 (by decide)
    have e14 : ownF _ _ _ _ _ _ 14 σ c wr := hf 14 (by decide)
    obtain ⟨e15, hX, hc15⟩ : ownF _ _ _ _ _ _ 15 σ c wr := hf 15 (by decide)
    simp only [ownF] at e13 e14
    rw [e3] at k3 e14
    rw [e7] at k7 e14
    rw [e11] at k11 e14
    rw [e13] at e14
    have n3 := hin 3 (by decide)
    have n7 := hin 7 (by decide)
    have n11 := hin 11 (by decide)
    have n15 := hin 15 (by decide)
    have d3_7 := hdj 3 (by decide) 7 (by decide) (by decide)
    have d3_11 := hdj 3 (by decide) 11 (by decide) (by decide)
    have d3_15 := hdj 3 (by decide) 15 (by decide) (by decide)
    have d7_11 := hdj 7 (by decide) 11 (by decide) (by decide)
    have d7_15 := hdj 7 (by decide) 15 (by decide) (by decide)
    have d11_15 := hdj 11 (by decide) 15 (by decide) (by decide)
    clear hf hin hdj
    dsimp only
    rw [e3, e7, e11, e13, e14, e15]
    generalize c 3 = c3 at k3 n3 d3_7 d3_11 d3_15
    generalize c 7 = c7 at k7 n7 d3_7 d7_11 d7_15
    generalize c 11 = c11 at k11 n11 d3_11 d7_11 d11_15
    generalize c 15 = c15 at hX hc15 n15 d3_15 d7_15 d11_15 ⊢
    obtain ⟨X, hXc⟩ : ∃ X, X = c15.1 := ⟨_, rfl⟩
    have ec : c15 = (X, X + 1) := by rw [hXc]; exact Prod.ext rfl hc15
    subst ec
    clear hc15 hXc
    simp only at hX n15 ⊢
    have HB := hid (BW.out.trans (hb.mono BW.out.size))
    have PA := hid (HA.out.below hb HA.out.lt)
    have PR := hid (HR.out.below hb HR.out.lt)
    have hbs := hb.size
    have OL := hid (OwnL.start (lo := w.heap.size + 2) (z := z) hX k3 k7 k11 (by omega) (by omega) (by omega) (by omega) d3_7 d3_11 d7_11 d3_15 d7_15 d11_15)
    have op := put5_only wr X (.slice a3 m3 q3) (.slice none 0 0) (.slice a7 m7 q7) (.slice a11 m11 q11) (.int .i64 z)
    have HB2 := hid (HB.out.trans (op.below fun j e => by omega))
    have PA2 := hid (PA.out.of_block (op.2.1 _ (by omega)))
    have PR2 := hid (PR.out.of_block (op.2.1 _ (by omega)))
    obtain ⟨y0, y1, y2, y3, y4⟩ := hX.five
    have x0 := (hX.cell 0 (by simp)).2
    have x1 := (hX.cell 1 (by simp)).2
    have x2 := (hX.cell 2 (by simp)).2
    have x3 := (hX.cell 3 (by simp)).2
    have x4 := (hX.cell 4 (by simp)).2
    have hXlo : w.heap.size + 2 ≤ X := by omega
    clear k3 k7 k11 n3 n7 n11 n15 d3_7 d3_11 d3_15 d7_11 d7_15 d11_15 op hX HB PA PR hb hbs HA HR BW e3 e7 e11 e13 e14 e15 hWs
    refine wpAny_ready (rs := [16]) (by kernel_rfl) (by simp) ?_
    refine AllReady.cons rfl (fun K hK => ?_) AllReady.nil
    go_simp
    refine hK _ _ ?_
    clear hK K
    refine wpAny_done (by kernel_rfl) ?_ _
    obtain ⟨W2, hW2⟩ : ∃ W2, W2 = put5 wr X (.slice a3 m3 q3) (.slice none 0 0) (.slice a7 m7 q7) (.slice a11 m11 q11) (.int .i64 z) := ⟨_, rfl⟩
    rw [← hW2] at OL HB2 PA2 PR2
    simp only [put5] at hW2
    rw [← hW2]
    clear hW2 y0 y1 y2 y3 y4 x0 x1 x2 x3 x4
    obtain ⟨y0, y1, y2, y3, y4⟩ := PA2.out.five
    go_wp2_with fail
    clear y0 y1 y2 y3 y4
    go_loopw [24] (fun n wx => ∃ (i : Nat) (vq : Value) (us : List Value) (c1 : Nat × Nat) (iv : Nat → Nat × Nat), n = .int .i64 i ∧ i ≤ D.f0.length ∧ OwnL (w.heap.size + 2) X D z (.slice a3 m3 q3) (.slice a7 m7 q7) (.slice a11 m11 q11) c3 c7 c11 i wx vq us c1 iv ∧ Below w.heap.size w wx ∧ BoxL wx w.heap.size [.slice (some ⟨g0, o0, none⟩) D.f0.length p0, .slice (some ⟨g1, o1, none⟩) D.f0.length p1, .slice (some ⟨g2, o2, none⟩) D.f0.length p2, .slice (some ⟨g3, o3, none⟩) D.f0.length p3, .int .i64 z] ∧ BoxL wx (w.heap.size + 1) [.slice none 0 0, .slice none 0 0, .slice none 0 0, .slice none 0 0, .int .i64 0]) (fun n _ => D.f0.length - (intOf n).toNat)
    case atStart => exact ⟨0, _, _, _, _, rfl, by omega, OL.out, HB2.out, PA2.out, PR2.out⟩
    case round =>
      obtain ⟨i, vq, us, c1, iv, rfl, hi2, hL, hB, hA, hR⟩ := hrel
      have HL := hid hL
      have HB := hid hB
      have HA := hid hA
      have HR := hid hR
      clear hL hB hA hR OL HB2 PA2 PR2
      by_cases hlt : i < D.f0.length
      · obtain ⟨u, cu, hu⟩ := H1.out i (by rw [HL1.out]; exact hlt)
        have CU := World.cell?_of_block (a := ⟨g1, o1 + i, none⟩) (HB.out.block g1 (lt_of_cell cu))
        rw [cu] at CU
        have HU := hid (hu.below HB.out)
        obtain ⟨au, nu, ku, eu⟩ : ∃ a n k, u = .slice a n k := by obtain ⟨a, k, e, _⟩ := hu; exact ⟨a, _, k, e⟩
        subst eu
        clear cu hu
        have n0 : (0 : Int) ≤ (i : Int) := by omega
        have n1 : (i : Int) < (D.f0.length : Int) := by omega
        have hlen : (D.f1.getD i []).length ≤ 30 := (HG.out.k i (by rw [HL1.out]; exact hlt)).1
        have HV := hid (sform_of_owns HL.out.row)
        obtain ⟨av, kv, ev⟩ := HV.out
        subst ev
        go_wp2_with fail
        refine wp_region_any (by kernel_rfl) ?_
        change wpAny _ _ _ _ _ _ _ (World.drew _)
        obtain ⟨wz, hwz⟩ : ∃ wz, wz = World.drew wr := ⟨_, rfl⟩
        replace HL : Hid (OwnL (w.heap.size + 2) X D z (.slice a3 m3 q3) (.slice a7 m7 q7) (.slice a11 m11 q11) c3 c7 c11 i wz (.slice av i kv) us c1 iv) := by rw [hwz]; exact HL.out.drew
        replace HB : Hid (Below w.heap.size w wz) := by rw [hwz]; exact HB.out.drew
        replace HA : Hid (BoxL wz w.heap.size [.slice (some ⟨g0, o0, none⟩) D.f0.length p0, .slice (some ⟨g1, o1, none⟩) D.f0.length p1, .slice (some ⟨g2, o2, none⟩) D.f0.length p2, .slice (some ⟨g3, o3, none⟩) D.f0.length p3, .int .i64 z]) := by rw [hwz]; exact HA.out
        replace HR : Hid (BoxL wz (w.heap.size + 1) [.slice none 0 0, .slice none 0 0, .slice none 0 0, .slice none 0 0, .int .i64 0]) := by rw [hwz]; exact HR.out
        replace HU : Hid (KReads wz (.slice au nu ku) (D.f1.getD i [])) := by rw [hwz]; exact HU.out
        rw [← hwz]
        clear hwz
        refine wpAny_facts' 3 (Array.replicate 9 false) #[true, true, true, true, true, true, false, false, false] [0, 1, 2, 3, 4, 5] (fun τ : Nat → Value => #[.agg #[.slice (some ⟨g0, o0, none⟩) D.f0.length p0, .slice (some ⟨g1, o1, none⟩) D.f0.length p1, .slice (some ⟨g2, o2, none⟩) D.f0.length p2, .slice (some ⟨g3, o3, none⟩) D.f0.length p3, .int .i64 z], .pointer (some ⟨w.heap.size, 0, none⟩), .pointer (some ⟨w.heap.size + 1, 0, none⟩), .pointer (some ⟨X, 0, none⟩), undef, .slice au nu ku, σ 0, σ 1, σ 2, .slice a3 m3 q3, σ 4, σ 5, σ 6, .slice a7 m7 q7, σ 8, σ 9, σ 10, .slice a11 m11 q11, σ 12, .int .i64 z, .agg #[.slice a3 m3 q3, .slice none 0 0, .slice a7 m7 q7, .slice a11 m11 q11, .int .i64 z], .pointer (some ⟨w.heap.size, 1, none⟩), .slice (some ⟨g1, o1, none⟩) D.f0.length p1, .int .i64 (D.f0.length : Nat), .int .i64 (i : Nat), .bool true, .pointer (some ⟨g1, o1 + i, none⟩), .slice au nu ku, τ 0, τ 1, τ 2, τ 3, τ 4, τ 5, u34, u35, u36, undef]) (rowF X (.slice av i kv) (.slice au nu ku) (D.f1.getD i [])) (fun | 0 => u28 | 1 => u29 | 2 => u30 | 3 => u31 | 4 => u32 | 5 => u33 | _ => undef) rfl (by kernel_rfl) (by kernel_rfl) (by kernel_rfl) (by kernel_rfl) (by decide) rowF_keep (fun j hj i hi σ c w v r hne hd h => rowF_loc hj hne (fun e => by subst e; exact (hd 4 (by decide)).symm) h) ?_ ?_
        · intro τ c wy hb hf hin hdj
          obtain ⟨k4, ka4, a4, m4, q4, e4⟩ : rowF _ _ _ _ 4 τ c wy := hf 4 (by decide)
          obtain ⟨b5, e5, h5⟩ : rowF _ _ _ _ 5 τ c wy := hf 5 (by decide)
          have e1 : rowF _ _ _ _ 1 τ c wy := hf 1 (by decide)
          simp only [rowF] at e1
          have n4 := hin 4 (by decide)
          rw [e4] at k4 ka4 h5
          clear hf hin hdj
          dsimp only
          rw [e1, e4, e5]
          refine wpAny_ready (rs := [6]) (by kernel_rfl) (by simp) ?_
          refine AllReady.cons rfl (fun K hK => ?_) AllReady.nil
          have hbs := hb.size
          refine step_append_row (by rfl) _ _ (by rfl) (w.heap.size + 2) (.slice av i kv) i us (by rfl) (owns_at HL.out.row fun g _ hg => hb.block g hg) b5 1 a4 m4 q4 (by rfl) h5 (by omega) (by have := HL.out.ap.inn 0 (by omega); simp only [ivc] at this; omega) ?_
          intro v6 w6 ho6 hg6 hv6
          refine hK _ _ ?_
          clear hK K
          obtain ⟨c1', hN⟩ := HL.out.next hb n4 k4 ka4 ho6 hg6 hv6
          obtain ⟨a6, k6, e6⟩ := sform_of_owns ho6
          have hbx : BoxL w6 X [.slice a3 m3 q3, .slice av i kv, .slice a7 m7 q7, .slice a11 m11 q11, .int .i64 z] := HL.out.far hb hg6
          have HN := hid hN
          have hX2 := (HL.out.ap.inn 0 (by omega)).1
          simp only [ivc] at hX2
          have HB6 : Hid (Below w.heap.size w (w6.setCell ⟨X, 1, none⟩ v6)) := ((HB.out.trans (hb.mono HB.out.size)).trans ((Below.refl _ _).grown hg6 (by have := HB.out.size; omega) (fun g e => by have := (owns_lt HL.out.row g e).1; have := HB.out.size; omega))).trans ((onlyP_set w6 X 1 v6).below (fun j e => by omega))
          have HA6 : Hid (BoxL (w6.setCell ⟨X, 1, none⟩ v6) w.heap.size [.slice (some ⟨g0, o0, none⟩) D.f0.length p0, .slice (some ⟨g1, o1, none⟩) D.f0.length p1, .slice (some ⟨g2, o2, none⟩) D.f0.length p2, .slice (some ⟨g3, o3, none⟩) D.f0.length p3, .int .i64 z]) := ((HA.out.below hb HA.out.lt).of_block (grown_at hg6 _ (by have := HA.out.lt; omega) (fun e => by have := (owns_lt HL.out.row _ e).1; omega))).of_block (Below.heap_setCell _ _ _ _ (by show w.heap.size ≠ X; omega))
          have HR6 : Hid (BoxL (w6.setCell ⟨X, 1, none⟩ v6) (w.heap.size + 1) [.slice none 0 0, .slice none 0 0, .slice none 0 0, .slice none 0 0, .int .i64 0]) := ((HR.out.below hb HR.out.lt).of_block (grown_at hg6 _ (by have := HR.out.lt; omega) (fun e => by have := (owns_lt HL.out.row _ e).1; omega))).of_block (Below.heap_setCell _ _ _ _ (by show w.heap.size + 1 ≠ X; omega))
          obtain ⟨y0, y1, y2, y3, y4⟩ := hbx.five
          have x1 := (hbx.cell 1 (by simp)).2
          subst e6
          clear hN hbx ho6 hg6 hv6 h5 k4 ka4 n4 hb hbs HL HB HA HR HU e1 e4 e5
          refine wpAny_ready (rs := [7]) (by kernel_rfl) (by simp) ?_
          refine AllReady.cons rfl (fun K hK => ?_) AllReady.nil
          go_simp
          refine hK _ _ ?_
          clear hK K
          refine wpAny_ready (rs := [8]) (by kernel_rfl) (by simp) ?_
          refine AllReady.cons rfl (fun K hK => ?_) AllReady.nil
          go_simp
          refine hK _ _ ?_
          clear hK K
          refine wpAny_done (by kernel_rfl) ?_ _
          go_wp2
          go_roundw
          case rel => exact ⟨i + 1, _, _, _, _, by go_num, by omega, HN.out, HB6.out, HA6.out, HR6.out⟩
          case measure => simp [intOf]; omega
        · intro i' hi' τ c wy hb hd
          simp only [List.mem_cons, List.not_mem_nil, or_false] at hi'; rcases hi' with rfl | rfl | rfl | rfl | rfl | rfl
          · skip
            clear hd
            refine StepF.of (a1 := ⟨#[.agg #[.slice (some ⟨g0, o0, none⟩) D.f0.length p0, .slice (some ⟨g1, o1, none⟩) D.f0.length p1, .slice (some ⟨g2, o2, none⟩) D.f0.length p2, .slice (some ⟨g3, o3, none⟩) D.f0.length p3, .int .i64 z], .pointer (some ⟨w.heap.size, 0, none⟩), .pointer (some ⟨w.heap.size + 1, 0, none⟩), .pointer (some ⟨X, 0, none⟩), undef, .slice au nu ku, σ 0, σ 1, σ 2, .slice a3 m3 q3, σ 4, σ 5, σ 6, .slice a7 m7 q7, σ 8, σ 9, σ 10, .slice a11 m11 q11, σ 12, .int .i64 z, .agg #[.slice a3 m3 q3, .slice none 0 0, .slice a7 m7 q7, .slice a11 m11 q11, .int .i64 z], .pointer (some ⟨w.heap.size, 1, none⟩), .slice (some ⟨g1, o1, none⟩) D.f0.length p1, .int .i64 (D.f0.length : Nat), .int .i64 (i : Nat), .bool true, .pointer (some ⟨g1, o1 + i, none⟩), .slice au nu ku, τ 0, τ 1, τ 2, τ 3, τ 4, τ 5, u34, u35, u36, undef], []⟩) rfl rfl (fun _ => rfl) (fun K hK => ?_)
            go_simp
            exact hK _ _ (Below.refl _ _) rfl
          · skip
            have f0 : rowF _ _ _ _ 0 τ c wy := hd 0 (by decide) (by decide)
            clear hd
            simp only [rowF] at f0
            refine StepF.of (a1 := ⟨#[.agg #[.slice (some ⟨g0, o0, none⟩) D.f0.length p0, .slice (some ⟨g1, o1, none⟩) D.f0.length p1, .slice (some ⟨g2, o2, none⟩) D.f0.length p2, .slice (some ⟨g3, o3, none⟩) D.f0.length p3, .int .i64 z], .pointer (some ⟨w.heap.size, 0, none⟩), .pointer (some ⟨w.heap.size + 1, 0, none⟩), .pointer (some ⟨X, 0, none⟩), undef, .slice au nu ku, σ 0, σ 1, σ 2, .slice a3 m3 q3, σ 4, σ 5, σ 6, .slice a7 m7 q7, σ 8, σ 9, σ 10, .slice a11 m11 q11, σ 12, .int .i64 z, .agg #[.slice a3 m3 q3, .slice none 0 0, .slice a7 m7 q7, .slice a11 m11 q11, .int .i64 z], .pointer (some ⟨w.heap.size, 1, none⟩), .slice (some ⟨g1, o1, none⟩) D.f0.length p1, .int .i64 (D.f0.length : Nat), .int .i64 (i : Nat), .bool true, .pointer (some ⟨g1, o1 + i, none⟩), .slice au nu ku, (.pointer (some ⟨X, 1, none⟩)), τ 1, τ 2, τ 3, τ 4, τ 5, u34, u35, u36, undef], []⟩) (by simp only [f0]) rfl (fun _ => rfl) (fun K hK => ?_)
            obtain ⟨y0, y1, y2, y3, y4⟩ := (HL.out.box.below hb HL.out.box.lt).five
            go_simp
            exact hK _ _ (Below.refl _ _) rfl
          · skip
            clear hd
            refine StepF.of (a1 := ⟨#[.agg #[.slice (some ⟨g0, o0, none⟩) D.f0.length p0, .slice (some ⟨g1, o1, none⟩) D.f0.length p1, .slice (some ⟨g2, o2, none⟩) D.f0.length p2, .slice (some ⟨g3, o3, none⟩) D.f0.length p3, .int .i64 z], .pointer (some ⟨w.heap.size, 0, none⟩), .pointer (some ⟨w.heap.size + 1, 0, none⟩), .pointer (some ⟨X, 0, none⟩), undef, .slice au nu ku, σ 0, σ 1, σ 2, .slice a3 m3 q3, σ 4, σ 5, σ 6, .slice a7 m7 q7, σ 8, σ 9, σ 10, .slice a11 m11 q11, σ 12, .int .i64 z, .agg #[.slice a3 m3 q3, .slice none 0 0, .slice a7 m7 q7, .slice a11 m11 q11, .int .i64 z], .pointer (some ⟨w.heap.size, 1, none⟩), .slice (some ⟨g1, o1, none⟩) D.f0.length p1, .int .i64 (D.f0.length : Nat), .int .i64 (i : Nat), .bool true, .pointer (some ⟨g1, o1 + i, none⟩), .slice au nu ku, τ 0, τ 1, τ 2, τ 3, τ 4, τ 5, u34, u35, u36, undef], []⟩) rfl rfl (fun _ => rfl) (fun K hK => ?_)
            go_simp
            exact hK _ _ ((Below.refl _ _).alloc (Nat.le_refl _) _) ⟨_, rfl⟩
          · skip
            clear hd
            refine StepF.of (a1 := ⟨#[.agg #[.slice (some ⟨g0, o0, none⟩) D.f0.length p0, .slice (some ⟨g1, o1, none⟩) D.f0.length p1, .slice (some ⟨g2, o2, none⟩) D.f0.length p2, .slice (some ⟨g3, o3, none⟩) D.f0.length p3, .int .i64 z], .pointer (some ⟨w.heap.size, 0, none⟩), .pointer (some ⟨w.heap.size + 1, 0, none⟩), .pointer (some ⟨X, 0, none⟩), undef, .slice au nu ku, σ 0, σ 1, σ 2, .slice a3 m3 q3, σ 4, σ 5, σ 6, .slice a7 m7 q7, σ 8, σ 9, σ 10, .slice a11 m11 q11, σ 12, .int .i64 z, .agg #[.slice a3 m3 q3, .slice none 0 0, .slice a7 m7 q7, .slice a11 m11 q11, .int .i64 z], .pointer (some ⟨w.heap.size, 1, none⟩), .slice (some ⟨g1, o1, none⟩) D.f0.length p1, .int .i64 (D.f0.length : Nat), .int .i64 (i : Nat), .bool true, .pointer (some ⟨g1, o1 + i, none⟩), .slice au nu ku, τ 0, τ 1, τ 2, τ 3, τ 4, τ 5, u34, u35, u36, undef], []⟩) rfl rfl (fun _ => rfl) (fun K hK => ?_)
            go_simp
            exact hK _ _ (Below.refl _ _) rfl
          · skip
            have f2 : rowF _ _ _ _ 2 τ c wy := hd 2 (by decide) (by decide)
            have f3 : rowF _ _ _ _ 3 τ c wy := hd 3 (by decide) (by decide)
            clear hd
            obtain ⟨bb, f2⟩ := f2
            simp only [rowF] at f3
            refine StepF.of (a1 := ⟨#[.agg #[.slice (some ⟨g0, o0, none⟩) D.f0.length p0, .slice (some ⟨g1, o1, none⟩) D.f0.length p1, .slice (some ⟨g2, o2, none⟩) D.f0.length p2, .slice (some ⟨g3, o3, none⟩) D.f0.length p3, .int .i64 z], .pointer (some ⟨w.heap.size, 0, none⟩), .pointer (some ⟨w.heap.size + 1, 0, none⟩), .pointer (some ⟨X, 0, none⟩), undef, .slice au nu ku, σ 0, σ 1, σ 2, .slice a3 m3 q3, σ 4, σ 5, σ 6, .slice a7 m7 q7, σ 8, σ 9, σ 10, .slice a11 m11 q11, σ 12, .int .i64 z, .agg #[.slice a3 m3 q3, .slice none 0 0, .slice a7 m7 q7, .slice a11 m11 q11, .int .i64 z], .pointer (some ⟨w.heap.size, 1, none⟩), .slice (some ⟨g1, o1, none⟩) D.f0.length p1, .int .i64 (D.f0.length : Nat), .int .i64 (i : Nat), .bool true, .pointer (some ⟨g1, o1 + i, none⟩), .slice au nu ku, τ 0, τ 1, (.slice (some ⟨bb, 0, none⟩) 0 0), (.slice au nu ku), τ 4, τ 5, u34, u35, u36, undef], []⟩) (by simp only [f2, f3]) rfl (fun _ => rfl) (fun K hK => ?_)
            refine step_clone_lit (by rfl) _ _ (by rfl) bb (by rfl) (.slice au nu ku) (D.f1.getD i []) (by rfl) (HU.out.below hb) (by have := hlen; omega) ?_
            intro u2 w2 k2 ka2 b2
            exact hK u2 w2 b2 ⟨k2, ka2, k2.sform⟩
          · skip
            have f4 : rowF _ _ _ _ 4 τ c wy := hd 4 (by decide) (by decide)
            clear hd
            obtain ⟨_, _, a4, m4, q4, f4⟩ := f4
            refine StepF.of (a1 := ⟨#[.agg #[.slice (some ⟨g0, o0, none⟩) D.f0.length p0, .slice (some ⟨g1, o1, none⟩) D.f0.length p1, .slice (some ⟨g2, o2, none⟩) D.f0.length p2, .slice (some ⟨g3, o3, none⟩) D.f0.length p3, .int .i64 z], .pointer (some ⟨w.heap.size, 0, none⟩), .pointer (some ⟨w.heap.size + 1, 0, none⟩), .pointer (some ⟨X, 0, none⟩), undef, .slice au nu ku, σ 0, σ 1, σ 2, .slice a3 m3 q3, σ 4, σ 5, σ 6, .slice a7 m7 q7, σ 8, σ 9, σ 10, .slice a11 m11 q11, σ 12, .int .i64 z, .agg #[.slice a3 m3 q3, .slice none 0 0, .slice a7 m7 q7, .slice a11 m11 q11, .int .i64 z], .pointer (some ⟨w.heap.size, 1, none⟩), .slice (some ⟨g1, o1, none⟩) D.f0.length p1, .int .i64 (D.f0.length : Nat), .int .i64 (i : Nat), .bool true, .pointer (some ⟨g1, o1 + i, none⟩), .slice au nu ku, τ 0, τ 1, τ 2, τ 3, (.slice a4 m4 q4), τ 5, u34, u35, u36, undef], []⟩) (by simp only [f4]) rfl (fun _ => rfl) (fun K hK => ?_)
            go_simp
            refine hK _ _ ((Below.refl _ _).alloc (Nat.le_refl _) _) ⟨_, rfl, ?_⟩
            show World.cell? (wy.alloc (.cells #[.slice a4 m4 q4] 23)) ⟨wy.heap.size, 0, none⟩ = some (τ 4)
            rw [f4, World.cell?_alloc_new]
            rfl
      · obtain rfl : i = D.f0.length := by omega
        obtain ⟨av, kv, ev⟩ := sform_of_owns HL.out.row
        subst ev
        obtain ⟨y0, y1, y2, y3, y4⟩ := HL.out.box.five
        obtain ⟨t0, t1, t2, t3, t4⟩ := HR.out.five
        have x0 := (HR.out.cell 0 (by simp)).2
        have x1 := (HR.out.cell 1 (by simp)).2
        have x2 := (HR.out.cell 2 (by simp)).2
        have x3 := (HR.out.cell 3 (by simp)).2
        have x4 := (HR.out.cell 4 (by simp)).2
        have hX2 := (HL.out.ap.inn 0 (by omega)).1
        simp only [ivc] at hX2
        have op := put5_only wr (w.heap.size + 1) (.slice a3 m3 q3) (.slice av D.f0.length kv) (.slice a7 m7 q7) (.slice a11 m11 q11) (.int .i64 z)
        have bx := put5_box HR.out (.slice a3 m3 q3) (.slice av D.f0.length kv) (.slice a7 m7 q7) (.slice a11 m11 q11) (.int .i64 z)
        have HT : Hid (TuOwnA (Iv w.heap.size (put5 wr (w.heap.size + 1) (.slice a3 m3 q3) (.slice av D.f0.length kv) (.slice a7 m7 q7) (.slice a11 m11 q11) (.int .i64 z)).heap.size) (put5 wr (w.heap.size + 1) (.slice a3 m3 q3) (.slice av D.f0.length kv) (.slice a7 m7 q7) (.slice a11 m11 q11) (.int .i64 z)) (.agg #[.slice a3 m3 q3, .slice av D.f0.length kv, .slice a7 m7 q7, .slice a11 m11 q11, .int .i64 z]) D) := by
          have h := HL.out
          rw [← HL1.out] at h ⊢
          rw [HZ.out] at h ⊢
          exact OwnL.turns (R := w.heap.size + 1) h (by rw [HL1.out]; omega) (by omega) (by rw [← HZ.out]; rw [HL1.out]; exact op) (by omega)
        have HB7 := hid (HB.out.trans (op.below fun j e => by omega))
        obtain ⟨z0, z1, z2, z3, z4⟩ := bx.five
        clear op bx HL HB HA HR
        go_wp2
        exact bodyPost_ret (v := .agg #[.slice a3 m3 q3, .slice av D.f0.length kv, .slice a7 m7 q7, .slice a11 m11 q11, .int .i64 z]) (by simp [results, Try.results88, go_sem, z0, z1, z2, z3, z4]) rfl ⟨_, rfl, HT.out, HB7.out⟩
  · intro i hi σ c wr hb hd
    have hA := HA.out.below hb HA.out.lt
    obtain ⟨y0, y1, y2, y3, y4⟩ := hA.five
    simp only [List.mem_cons, List.not_mem_nil, or_false] at hi; rcases hi with rfl | rfl | rfl | rfl | rfl | rfl | rfl | rfl | rfl | rfl | rfl | rfl | rfl | rfl | rfl | rfl
    · skip
      clear hd
      refine StepF.of (a1 := ⟨#[.agg #[.slice (some ⟨g0, o0, none⟩) D.f0.length p0, .slice (some ⟨g1, o1, none⟩) D.f0.length p1, .slice (some ⟨g2, o2, none⟩) D.f0.length p2, .slice (some ⟨g3, o3, none⟩) D.f0.length p3, .int .i64 z], .pointer (some ⟨w.heap.size, 0, none⟩), .pointer (some ⟨w.heap.size + 1, 0, none⟩), σ 15, undef, undef, σ 0, σ 1, σ 2, σ 3, σ 4, σ 5, σ 6, σ 7, σ 8, σ 9, σ 10, σ 11, σ 12, σ 13, σ 14, undef, undef, undef, undef, undef, undef, undef, undef, undef, undef, undef, undef, undef, undef, undef, undef, undef], []⟩) rfl rfl (fun _ => rfl) (fun K hK => ?_)
      go_simp
      exact hK _ _ ((Below.refl _ _).alloc (Nat.le_refl _) _) (⟨_, rfl⟩)
    · skip
      clear hd
      refine StepF.of (a1 := ⟨#[.agg #[.slice (some ⟨g0, o0, none⟩) D.f0.length p0, .slice (some ⟨g1, o1, none⟩) D.f0.length p1, .slice (some ⟨g2, o2, none⟩) D.f0.length p2, .slice (some ⟨g3, o3, none⟩) D.f0.length p3, .int .i64 z], .pointer (some ⟨w.heap.size, 0, none⟩), .pointer (some ⟨w.heap.size + 1, 0, none⟩), σ 15, undef, undef, σ 0, σ 1, σ 2, σ 3, σ 4, σ 5, σ 6, σ 7, σ 8, σ 9, σ 10, σ 11, σ 12, σ 13, σ 14, undef, undef, undef, undef, undef, undef, undef, undef, undef, undef, undef, undef, undef, undef, undef, undef, undef], []⟩) rfl rfl (fun _ => rfl) (fun K hK => ?_)
      go_simp
      exact hK _ _ (Below.refl _ _) (rfl)
    · skip
      have f1 : ownF _ _ _ _ _ _ 1 σ c wr := hd 1 (by decide) (by decide)
      clear hd
      simp only [ownF] at f1
      refine StepF.of (a1 := ⟨#[.agg #[.slice (some ⟨g0, o0, none⟩) D.f0.length p0, .slice (some ⟨g1, o1, none⟩) D.f0.length p1, .slice (some ⟨g2, o2, none⟩) D.f0.length p2, .slice (some ⟨g3, o3, none⟩) D.f0.length p3, .int .i64 z], .pointer (some ⟨w.heap.size, 0, none⟩), .pointer (some ⟨w.heap.size + 1, 0, none⟩), σ 15, undef, undef, σ 0, (.pointer (some ⟨w.heap.size, 0, none⟩)), σ 2, σ 3, σ 4, σ 5, σ 6, σ 7, σ 8, σ 9, σ 10, σ 11, σ 12, σ 13, σ 14, undef, undef, undef, undef, undef, undef, undef, undef, undef, undef, undef, undef, undef, undef, undef, undef, undef], []⟩) (by simp only [f1]) rfl (fun _ => rfl) (fun K hK => ?_)
      go_simp
      exact hK _ _ (Below.refl _ _) (rfl)
    · skip
      have f0 : ownF _ _ _ _ _ _ 0 σ c wr := hd 0 (by decide) (by decide)
      have f2 : ownF _ _ _ _ _ _ 2 σ c wr := hd 2 (by decide) (by decide)
      clear hd
      obtain ⟨bb, f0⟩ := f0
      simp only [ownF] at f2
      refine StepF.of (a1 := ⟨#[.agg #[.slice (some ⟨g0, o0, none⟩) D.f0.length p0, .slice (some ⟨g1, o1, none⟩) D.f0.length p1, .slice (some ⟨g2, o2, none⟩) D.f0.length p2, .slice (some ⟨g3, o3, none⟩) D.f0.length p3, .int .i64 z], .pointer (some ⟨w.heap.size, 0, none⟩), .pointer (some ⟨w.heap.size + 1, 0, none⟩), σ 15, undef, undef, (.slice (some ⟨bb, 0, none⟩) 0 0), σ 1, (.slice (some ⟨g0, o0, none⟩) D.f0.length p0), σ 3, σ 4, σ 5, σ 6, σ 7, σ 8, σ 9, σ 10, σ 11, σ 12, σ 13, σ 14, undef, undef, undef, undef, undef, undef, undef, undef, undef, undef, undef, undef, undef, undef, undef, undef, undef], []⟩) (by simp only [f0, f2]) rfl (fun _ => rfl) (fun K hK => ?_)
      have hl : D.f0.length = D.f0.length := rfl
      have hbw := BW.out.trans (hb.mono BW.out.size)
      refine step_append_grows (by rfl) _ _ _ (by rfl) 3 i0 (.int .i64 0) 1 8 Try.underlying23 hi hz0 hz1 hz2 (by rfl) (by decide) (some ⟨bb, 0, none⟩) 0 0 [] (by rfl) (by intro h; cases h) (by rfl) (by intro b0 _ j u h; simp at h) ⟨g0, o0, none⟩ D.f0.length p0 (kflat D.f0) (by rfl) (by rw [length_kflat, Nat.mul_one] <;> exact hl) (kflat_cells (fun i hi => (H0.out i hi).below hbw (H0.out i hi).lt)) (kflat_one _) (by omega) (by unfold maxLen; omega) (by omega) ?_
      intro u2 w2 hown hgrow
      have b : Below wr.heap.size wr w2 := (Below.refl _ _).grown hgrow (Nat.le_refl _) (by intro k h; cases h)
      rw [Nat.zero_add, List.nil_append] at hown
      have k2 := KOwn.of_owns hown (by omega)
      exact hK u2 w2 b ⟨k2, k2.sform⟩
    · skip
      clear hd
      refine StepF.of (a1 := ⟨#[.agg #[.slice (some ⟨g0, o0, none⟩) D.f0.length p0, .slice (some ⟨g1, o1, none⟩) D.f0.length p1, .slice (some ⟨g2, o2, none⟩) D.f0.length p2, .slice (some ⟨g3, o3, none⟩) D.f0.length p3, .int .i64 z], .pointer (some ⟨w.heap.size, 0, none⟩), .pointer (some ⟨w.heap.size + 1, 0, none⟩), σ 15, undef, undef, σ 0, σ 1, σ 2, σ 3, σ 4, σ 5, σ 6, σ 7, σ 8, σ 9, σ 10, σ 11, σ 12, σ 13, σ 14, undef, undef, undef, undef, undef, undef, undef, undef, undef, undef, undef, undef, undef, undef, undef, undef, undef], []⟩) rfl rfl (fun _ => rfl) (fun K hK => ?_)
      go_simp
      exact hK _ _ ((Below.refl _ _).alloc (Nat.le_refl _) _) (⟨_, rfl⟩)
    · skip
      clear hd
      refine StepF.of (a1 := ⟨#[.agg #[.slice (some ⟨g0, o0, none⟩) D.f0.length p0, .slice (some ⟨g1, o1, none⟩) D.f0.length p1, .slice (some ⟨g2, o2, none⟩) D.f0.length p2, .slice (some ⟨g3, o3, none⟩) D.f0.length p3, .int .i64 z], .pointer (some ⟨w.heap.size, 0, none⟩), .pointer (some ⟨w.heap.size + 1, 0, none⟩), σ 15, undef, undef, σ 0, σ 1, σ 2, σ 3, σ 4, σ 5, σ 6, σ 7, σ 8, σ 9, σ 10, σ 11, σ 12, σ 13, σ 14, undef, undef, undef, undef, undef, undef, undef, undef, undef, undef, undef, undef, undef, undef, undef, undef, undef], []⟩) rfl rfl (fun _ => rfl) (fun K hK => ?_)
      go_simp
      exact hK _ _ (Below.refl _ _) (rfl)
    · skip
      have f5 : ownF _ _ _ _ _ _ 5 σ c wr := hd 5 (by decide) (by decide)
      clear hd
      simp only [ownF] at f5
      refine StepF.of (a1 := ⟨#[.agg #[.slice (some ⟨g0, o0, none⟩) D.f0.length p0, .slice (some ⟨g1, o1, none⟩) D.f0.length p1, .slice (some ⟨g2, o2, none⟩) D.f0.length p2, .slice (some ⟨g3, o3, none⟩) D.f0.length p3, .int .i64 z], .pointer (some ⟨w.heap.size, 0, none⟩), .pointer (some ⟨w.heap.size + 1, 0, none⟩), σ 15, undef, undef, σ 0, σ 1, σ 2, σ 3, σ 4, (.pointer (some ⟨w.heap.size, 2, none⟩)), σ 6, σ 7, σ 8, σ 9, σ 10, σ 11, σ 12, σ 13, σ 14, undef, undef, undef, undef, undef, undef, undef, undef, undef, undef, undef, undef, undef, undef, undef, undef, undef], []⟩) (by simp only [f5]) rfl (fun _ => rfl) (fun K hK => ?_)
      go_simp
      exact hK _ _ (Below.refl _ _) (rfl)
    · skip
      have f4 : ownF _ _ _ _ _ _ 4 σ c wr := hd 4 (by decide) (by decide)
      have f6 : ownF _ _ _ _ _ _ 6 σ c wr := hd 6 (by decide) (by decide)
      clear hd
      obtain ⟨bb, f4⟩ := f4
      simp only [ownF] at f6
      refine StepF.of (a1 := ⟨#[.agg #[.slice (some ⟨g0, o0, none⟩) D.f0.length p0, .slice (some ⟨g1, o1, none⟩) D.f0.length p1, .slice (some ⟨g2, o2, none⟩) D.f0.length p2, .slice (some ⟨g3, o3, none⟩) D.f0.length p3, .int .i64 z], .pointer (some ⟨w.heap.size, 0, none⟩), .pointer (some ⟨w.heap.size + 1, 0, none⟩), σ 15, undef, undef, σ 0, σ 1, σ 2, σ 3, (.slice (some ⟨bb, 0, none⟩) 0 0), σ 5, (.slice (some ⟨g2, o2, none⟩) D.f0.length p2), σ 7, σ 8, σ 9, σ 10, σ 11, σ 12, σ 13, σ 14, undef, undef, undef, undef, undef, undef, undef, undef, undef, undef, undef, undef, undef, undef, undef, undef, undef], []⟩) (by simp only [f4, f6]) rfl (fun _ => rfl) (fun K hK => ?_)
      have hl : D.f2.length = D.f0.length := HL2.out
      have hbw := BW.out.trans (hb.mono BW.out.size)
      refine step_append_grows (by rfl) _ _ _ (by rfl) 3 i0 (.int .i64 0) 1 8 Try.underlying23 hi hz0 hz1 hz2 (by rfl) (by decide) (some ⟨bb, 0, none⟩) 0 0 [] (by rfl) (by intro h; cases h) (by rfl) (by intro b0 _ j u h; simp at h) ⟨g2, o2, none⟩ D.f0.length p2 (kflat D.f2) (by rfl) (by rw [length_kflat, Nat.mul_one] <;> exact hl) (kflat_cells (fun i hi => (H2.out i hi).below hbw (H2.out i hi).lt)) (kflat_one _) (by omega) (by unfold maxLen; omega) (by omega) ?_
      intro u2 w2 hown hgrow
      have b : Below wr.heap.size wr w2 := (Below.refl _ _).grown hgrow (Nat.le_refl _) (by intro k h; cases h)
      rw [Nat.zero_add, List.nil_append] at hown
      have k2 := KOwn.of_owns hown (by omega)
      exact hK u2 w2 b ⟨k2, k2.sform⟩
    · skip
      clear hd
      refine StepF.of (a1 := ⟨#[.agg #[.slice (some ⟨g0, o0, none⟩) D.f0.length p0, .slice (some ⟨g1, o1, none⟩) D.f0.length p1, .slice (some ⟨g2, o2, none⟩) D.f0.length p2, .slice (some ⟨g3, o3, none⟩) D.f0.length p3, .int .i64 z], .pointer (some ⟨w.heap.size, 0, none⟩), .pointer (some ⟨w.heap.size + 1, 0, none⟩), σ 15, undef, undef, σ 0, σ 1, σ 2, σ 3, σ 4, σ 5, σ 6, σ 7, σ 8, σ 9, σ 10, σ 11, σ 12, σ 13, σ 14, undef, undef, undef, undef, undef, undef, undef, undef, undef, undef, undef, undef, undef, undef, undef, undef, undef], []⟩) rfl rfl (fun _ => rfl) (fun K hK => ?_)
      go_simp
      exact hK _ _ ((Below.refl _ _).alloc (Nat.le_refl _) _) (⟨_, rfl⟩)
    · skip
      clear hd
      refine StepF.of (a1 := ⟨#[.agg #[.slice (some ⟨g0, o0, none⟩) D.f0.length p0, .slice (some ⟨g1, o1, none⟩) D.f0.length p1, .slice (some ⟨g2, o2, none⟩) D.f0.length p2, .slice (some ⟨g3, o3, none⟩) D.f0.length p3, .int .i64 z], .pointer (some ⟨w.heap.size, 0, none⟩), .pointer (some ⟨w.heap.size + 1, 0, none⟩), σ 15, undef, undef, σ 0, σ 1, σ 2, σ 3, σ 4, σ 5, σ 6, σ 7, σ 8, σ 9, σ 10, σ 11, σ 12, σ 13, σ 14, undef, undef, undef, undef, undef, undef, undef, undef, undef, undef, undef, undef, undef, undef, undef, undef, undef], []⟩) rfl rfl (fun _ => rfl) (fun K hK => ?_)
      go_simp
      exact hK _ _ (Below.refl _ _) (rfl)
    · skip
      have f9 : ownF _ _ _ _ _ _ 9 σ c wr := hd 9 (by decide) (by decide)
      clear hd
      simp only [ownF] at f9
      refine StepF.of (a1 := ⟨#[.agg #[.slice (some ⟨g0, o0, none⟩) D.f0.length p0, .slice (some ⟨g1, o1, none⟩) D.f0.length p1, .slice (some ⟨g2, o2, none⟩) D.f0.length p2, .slice (some ⟨g3, o3, none⟩) D.f0.length p3, .int .i64 z], .pointer (some ⟨w.heap.size, 0, none⟩), .pointer (some ⟨w.heap.size + 1, 0, none⟩), σ 15, undef, undef, σ 0, σ 1, σ 2, σ 3, σ 4, σ 5, σ 6, σ 7, σ 8, (.pointer (some ⟨w.heap.size, 3, none⟩)), σ 10, σ 11, σ 12, σ 13, σ 14, undef, undef, undef, undef, undef, undef, undef, undef, undef, undef, undef, undef, undef, undef, undef, undef, undef], []⟩) (by simp only [f9]) rfl (fun _ => rfl) (fun K hK => ?_)
      go_simp
      exact hK _ _ (Below.refl _ _) (rfl)
    · skip
      have f8 : ownF _ _ _ _ _ _ 8 σ c wr := hd 8 (by decide) (by decide)
      have f10 : ownF _ _ _ _ _ _ 10 σ c wr := hd 10 (by decide) (by decide)
      clear hd
      obtain ⟨bb, f8⟩ := f8
      simp only [ownF] at f10
      refine StepF.of (a1 := ⟨#[.agg #[.slice (some ⟨g0, o0, none⟩) D.f0.length p0, .slice (some ⟨g1, o1, none⟩) D.f0.length p1, .slice (some ⟨g2, o2, none⟩) D.f0.length p2, .slice (some ⟨g3, o3, none⟩) D.f0.length p3, .int .i64 z], .pointer (some ⟨w.heap.size, 0, none⟩), .pointer (some ⟨w.heap.size + 1, 0, none⟩), σ 15, undef, undef, σ 0, σ 1, σ 2, σ 3, σ 4, σ 5, σ 6, σ 7, (.slice (some ⟨bb, 0, none⟩) 0 0), σ 9, (.slice (some ⟨g3, o3, none⟩) D.f0.length p3), σ 11, σ 12, σ 13, σ 14, undef, undef, undef, undef, undef, undef, undef, undef, undef, undef, undef, undef, undef, undef, undef, undef, undef], []⟩) (by simp only [f8, f10]) rfl (fun _ => rfl) (fun K hK => ?_)
      have hl : D.f3.length = D.f0.length := HL3.out
      have hbw := BW.out.trans (hb.mono BW.out.size)
      refine step_append_grows (by rfl) _ _ _ (by rfl) 3 i0 (.int .i64 0) 1 8 Try.underlying23 hi hz0 hz1 hz2 (by rfl) (by decide) (some ⟨bb, 0, none⟩) 0 0 [] (by rfl) (by intro h; cases h) (by rfl) (by intro b0 _ j u h; simp at h) ⟨g3, o3, none⟩ D.f0.length p3 (kflat D.f3) (by rfl) (by rw [length_kflat, Nat.mul_one] <;> exact hl) (kflat_cells (fun i hi => (H3.out i hi).below hbw (H3.out i hi).lt)) (kflat_one _) (by omega) (by unfold maxLen; omega) (by omega) ?_
      intro u2 w2 hown hgrow
      have b : Below wr.heap.size wr w2 := (Below.refl _ _).grown hgrow (Nat.le_refl _) (by intro k h; cases h)
      rw [Nat.zero_add, List.nil_append] at hown
      have k2 := KOwn.of_owns hown (by omega)
      exact hK u2 w2 b ⟨k2, k2.sform⟩
    · skip
      clear hd
      refine StepF.of (a1 := ⟨#[.agg #[.slice (some ⟨g0, o0, none⟩) D.f0.length p0, .slice (some ⟨g1, o1, none⟩) D.f0.length p1, .slice (some ⟨g2, o2, none⟩) D.f0.length p2, .slice (some ⟨g3, o3, none⟩) D.f0.length p3, .int .i64 z], .pointer (some ⟨w.heap.size, 0, none⟩), .pointer (some ⟨w.heap.size + 1, 0, none⟩), σ 15, undef, undef, σ 0, σ 1, σ 2, σ 3, σ 4, σ 5, σ 6, σ 7, σ 8, σ 9, σ 10, σ 11, σ 12, σ 13, σ 14, undef, undef, undef, undef, undef, undef, undef, undef, undef, undef, undef, undef, undef, undef, undef, undef, undef], []⟩) rfl rfl (fun _ => rfl) (fun K hK => ?_)
      go_simp
      exact hK _ _ (Below.refl _ _) (rfl)
    · skip
      have f12 : ownF _ _ _ _ _ _ 12 σ c wr := hd 12 (by decide) (by decide)
      clear hd
      simp only [ownF] at f12
      refine StepF.of (a1 := ⟨#[.agg #[.slice (some ⟨g0, o0, none⟩) D.f0.length p0, .slice (some ⟨g1, o1, none⟩) D.f0.length p1, .slice (some ⟨g2, o2, none⟩) D.f0.length p2, .slice (some ⟨g3, o3, none⟩) D.f0.length p3, .int .i64 z], .pointer (some ⟨w.heap.size, 0, none⟩), .pointer (some ⟨w.heap.size + 1, 0, none⟩), σ 15, undef, undef, σ 0, σ 1, σ 2, σ 3, σ 4, σ 5, σ 6, σ 7, σ 8, σ 9, σ 10, σ 11, (.pointer (some ⟨w.heap.size, 4, none⟩)), σ 13, σ 14, undef, undef, undef, undef, undef, undef, undef, undef, undef, undef, undef, undef, undef, undef, undef, undef, undef], []⟩) (by simp only [f12]) rfl (fun _ => rfl) (fun K hK => ?_)
      go_simp
      exact hK _ _ (Below.refl _ _) (rfl)
    · skip
      have f3 : ownF _ _ _ _ _ _ 3 σ c wr := hd 3 (by decide) (by decide)
      have f7 : ownF _ _ _ _ _ _ 7 σ c wr := hd 7 (by decide) (by decide)
      have f11 : ownF _ _ _ _ _ _ 11 σ c wr := hd 11 (by decide) (by decide)
      have f13 : ownF _ _ _ _ _ _ 13 σ c wr := hd 13 (by decide) (by decide)
      clear hd
      obtain ⟨_, a3, m3, q3, f3⟩ := f3
      obtain ⟨_, a7, m7, q7, f7⟩ := f7
      obtain ⟨_, a11, m11, q11, f11⟩ := f11
      simp only [ownF] at f13
      refine StepF.of (a1 := ⟨#[.agg #[.slice (some ⟨g0, o0, none⟩) D.f0.length p0, .slice (some ⟨g1, o1, none⟩) D.f0.length p1, .slice (some ⟨g2, o2, none⟩) D.f0.length p2, .slice (some ⟨g3, o3, none⟩) D.f0.length p3, .int .i64 z], .pointer (some ⟨w.heap.size, 0, none⟩), .pointer (some ⟨w.heap.size + 1, 0, none⟩), σ 15, undef, undef, σ 0, σ 1, σ 2, (.slice a3 m3 q3), σ 4, σ 5, σ 6, (.slice a7 m7 q7), σ 8, σ 9, σ 10, (.slice a11 m11 q11), σ 12, (.int .i64 z), σ 14, undef, undef, undef, undef, undef, undef, undef, undef, undef, undef, undef, undef, undef, undef, undef, undef, undef], []⟩) (by simp only [f3, f7, f11, f13]) rfl (fun _ => rfl) (fun K hK => ?_)
      go_simp
      exact hK _ _ (Below.refl _ _) (by show _ = Value.agg #[σ 3, .slice none 0 0, σ 7, σ 11, σ 13]; rw [f3, f7, f11, f13]; rfl)
    · skip
      clear hd
      refine StepF.of (a1 := ⟨#[.agg #[.slice (some ⟨g0, o0, none⟩) D.f0.length p0, .slice (some ⟨g1, o1, none⟩) D.f0.length p1, .slice (some ⟨g2, o2, none⟩) D.f0.length p2, .slice (some ⟨g3, o3, none⟩) D.f0.length p3, .int .i64 z], .pointer (some ⟨w.heap.size, 0, none⟩), .pointer (some ⟨w.heap.size + 1, 0, none⟩), σ 15, undef, undef, σ 0, σ 1, σ 2, σ 3, σ 4, σ 5, σ 6, σ 7, σ 8, σ 9, σ 10, σ 11, σ 12, σ 13, σ 14, undef, undef, undef, undef, undef, undef, undef, undef, undef, undef, undef, undef, undef, undef, undef, undef, undef], []⟩) rfl rfl (fun _ => rfl) (fun K hK => ?_)
      go_simp
      exact hK _ _ ((Below.refl _ _).alloc (Nat.le_refl _) _) (⟨rfl, boxL_new wr [.slice none 0 0, .slice none 0 0, .slice none 0 0, .slice none 0 0, .int .i64 0] 55, by simp [upd]⟩)
end Go.Proofs.Ytepnhbicmlfnhac
