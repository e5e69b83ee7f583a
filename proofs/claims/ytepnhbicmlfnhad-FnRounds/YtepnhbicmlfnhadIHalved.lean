/-
  (impl.Shares).halved: each window changed, in memory of its own. Nothing old is written.
-/
import Derived.Test.YtepnhbicmlfnhadIEachH
import Derived.Test.YtepnhbicmlfnhadShBox
import Derived.Test.YtepnhbicmlfnhadRegFacts
namespace Go.Proofs.Ytepnhbicmlfnhad
open Go.RowKit

/-- What the operations make. -/
def haF (A : Nat) (v0 : Value) (z : Int) (xs : List Int) : Nat → (Nat → Value) → (Nat → Nat × Nat) → World → Prop
  | 0, σ, _, _ => σ 0 = .pointer (some ⟨A, 0, none⟩)
  | 1, σ, _, _ => σ 1 = v0
  | 2, σ, c, w => KOwn (c 2).1 (c 2).2 w (σ 2) (xs.map halfOf) ∧ ∃ a n k, σ 2 = .slice a n k
  | 3, σ, _, _ => σ 3 = .pointer (some ⟨A, 1, none⟩)
  | 4, σ, _, _ => σ 4 = .int .i64 z
  | 5, σ, _, _ => σ 5 = .agg #[σ 2, σ 4]
  | _, _, _, _ => True
theorem haF_keep {A : Nat} {v0 : Value} {z : Int} {xs : List Int} : ∀ j ∈ [0, 1, 2, 3, 4, 5], ∀ σ c w w', haF A v0 z xs j σ c w → Below w.heap.size w w' → haF A v0 z xs j σ c w' := by
  intro j hj σ c w w' h hb
  simp only [List.mem_cons, List.not_mem_nil, or_false] at hj; rcases hj with rfl | rfl | rfl | rfl | rfl | rfl
  · exact h
  · exact h
  · exact ⟨h.1.below hb, h.2⟩
  · exact h
  · exact h
  · exact h
theorem haF_loc {A : Nat} {v0 : Value} {z : Int} {xs : List Int} {j i : Nat} {σ : Nat → Value} {c : Nat → Nat × Nat} {w : World} {v : Value} {r : Nat × Nat} (hj : j ∈ [0, 1, 2, 3, 4, 5]) (hne : i ≠ j) (hd : (j = 5 → i ≠ 2 ∧ i ≠ 4)) (h : haF A v0 z xs j σ c w) : haF A v0 z xs j (upd σ i v) (upd c i r) w := by
  simp only [List.mem_cons, List.not_mem_nil, or_false] at hj; rcases hj with rfl | rfl | rfl | rfl | rfl | rfl
  · simp only [haF, upd_other _ _ (Ne.symm hne)] at h ⊢
    exact h
  · simp only [haF, upd_other _ _ (Ne.symm hne)] at h ⊢
    exact h
  · simp only [haF, upd_other _ _ (Ne.symm hne)] at h ⊢
    exact h
  · simp only [haF, upd_other _ _ (Ne.symm hne)] at h ⊢
    exact h
  · simp only [haF, upd_other _ _ (Ne.symm hne)] at h ⊢
    exact h
  · obtain ⟨d2, d4⟩ := hd rfl
    simp only [haF, upd_other _ _ (Ne.symm hne), upd_other _ _ (Ne.symm d2), upd_other _ _ (Ne.symm d4)] at h ⊢
    exact h
set_option maxRecDepth 100000 in
set_option maxHeartbeats 8000000 in
theorem ihalven_any (v : Value) (D : ShD) (w : World) (hr : ShReads w v D) (hg : GoodS D) :
    Calls Try.prog 39 #[v] w fun e w' => ∃ u0, e = .returned u0 ∧ ShOwn (Iv w.heap.size w'.heap.size) w' u0 (halveS D) ∧ Below w.heap.size w w' := by
  have HG := hid hg
  have hl5 := hg.l5
  obtain ⟨v0, rfl, r0⟩ := hr
  have HR0 := hid r0
  obtain ⟨a0, p0, rfl, _, _⟩ := r0
  obtain ⟨z, hz⟩ : ∃ z, z = D.f1 := ⟨_, rfl⟩
  have HZ := hid hz
  rw [← hz]
  have P := box_two w (.slice a0 D.f0.length p0) (.int .i64 z) (.slice none 0 0) (.int .i64 0) 25
  obtain ⟨W, hW⟩ : ∃ W, W = (w.alloc (.cells #[.slice a0 D.f0.length p0, .int .i64 z] 25)).alloc (.cells #[.slice none 0 0, .int .i64 0] 25) := ⟨_, rfl⟩
  obtain ⟨q0, q1⟩ := P.1.two
  rw [← hW] at P
  have PA := hid P.1
  have PR := hid P.2.1
  have B := hid P.2.2.1
  have hWs := P.2.2.2
  have HW := hid hW
  clear P hg hz hW q0 q1
  go_enter Try.func39, Try.ntmps39
  go_wp2_with fail
  rw [← HW.out]
  clear HW
  refine wp_region_any (by kernel_rfl) ?_
  change wpAny _ _ _ _ _ _ _ (World.drew _)
  obtain ⟨W2, hW2⟩ : ∃ X, X = World.drew W := ⟨_, rfl⟩
  replace PA : Hid (BoxL W2 w.heap.size [.slice a0 D.f0.length p0, .int .i64 z]) := by rw [hW2]; exact PA.out
  replace PR : Hid (BoxL W2 (w.heap.size + 1) [.slice none 0 0, .int .i64 0]) := by rw [hW2]; exact PR.out
  replace B : Hid (Below w.heap.size w W2) := by rw [hW2]; exact B.out.drew
  have hs2 : W2.heap.size = w.heap.size + 2 := by rw [hW2]; exact hWs
  have HR1 := hid (HR0.out.below B.out)
  rw [← hW2]
  clear hW2 hWs
  refine wpAny_facts' 1 (Array.replicate 7 false) #[true, true, true, true, true, true, false] [0, 1, 2, 3, 4, 5] (fun σ => #[.agg #[.slice a0 D.f0.length p0, .int .i64 z], .pointer (some ⟨w.heap.size, 0, none⟩), .pointer (some ⟨w.heap.size + 1, 0, none⟩), σ 0, σ 1, σ 2, σ 3, σ 4, σ 5]) (haF w.heap.size (.slice a0 D.f0.length p0) z D.f0) (fun _ => undef) rfl (by kernel_rfl) (by kernel_rfl) (by kernel_rfl) (by kernel_rfl) (by decide) haF_keep (fun j hj i hi σ c w v r hne hd h => haF_loc hj hne (fun e => by subst e; exact ⟨(hd 2 (by decide)).symm, (hd 4 (by decide)).symm⟩) h) ?_ ?_
  · intro σ c wr' hb hf hin hdj
    have e0 : haF _ _ _ _ 0 σ c wr' := hf 0 (by decide)
    have e1 : haF _ _ _ _ 1 σ c wr' := hf 1 (by decide)
    obtain ⟨k2, a2, m2, q2, e2⟩ : haF _ _ _ _ 2 σ c wr' := hf 2 (by decide)
    have e3 : haF _ _ _ _ 3 σ c wr' := hf 3 (by decide)
    have e4 : haF _ _ _ _ 4 σ c wr' := hf 4 (by decide)
    have e5 : haF _ _ _ _ 5 σ c wr' := hf 5 (by decide)
    simp only [haF] at e0 e1 e3 e4 e5
    rw [e2] at k2 e5
    rw [e4] at e5
    have n2 := hin 2 (by decide)
    clear hf hin hdj
    try dsimp only
    rw [e0, e1, e2, e3, e4, e5]
    replace PR := hid (PR.out.below hb PR.out.lt)
    replace B := hid (B.out.trans (hb.mono B.out.size))
    have hs3 : W2.heap.size ≤ wr'.heap.size := hb.size
    have O : ShOwn (Iv (c 2).1 (c 2).2) wr' (.agg #[.slice a2 m2 q2, .int .i64 z]) (halveS D) := by
      have hzz := HZ.out
      rw [hzz]
      exact ShOwn.mk1 (D := halveS D) k2 n2.2.1 (fun g h1 h2 => ⟨h1, h2⟩)
    obtain ⟨⟨y0, f0⟩, y1, f1⟩ := PR.out.form2
    have LF := sh_leaf PR.out B.out (by omega) O (by omega) (by omega) (by omega)
    have HO := hid LF.1
    have HB := hid LF.2.1
    obtain ⟨t0, t1⟩ := LF.2.2
    clear LF O hb k2 n2 e0 e1 e2 e3 e4 e5 HR1
    refine wpAny_ready (rs := [6]) (by kernel_rfl) (by simp) ?_
    refine AllReady.cons rfl (fun K hK => ?_) AllReady.nil
    go_simp
    refine hK _ _ ?_
    clear hK K
    refine wpAny_done (by kernel_rfl) ?_ _
    go_wp2
    exact bodyPost_ret (v := .agg #[.slice a2 m2 q2, .int .i64 z]) (by simp [results, Try.results39, go_sem, t0, t1]) rfl ⟨_, rfl, HO.out, HB.out⟩
  · intro i hi σ c wr' hb hd
    simp only [List.mem_cons, List.not_mem_nil, or_false] at hi; rcases hi with rfl | rfl | rfl | rfl | rfl | rfl
    · skip
      clear hd
      refine StepF.of (a1 := ⟨#[.agg #[.slice a0 D.f0.length p0, .int .i64 z], .pointer (some ⟨w.heap.size, 0, none⟩), .pointer (some ⟨w.heap.size + 1, 0, none⟩), σ 0, σ 1, σ 2, σ 3, σ 4, σ 5], []⟩) rfl rfl (fun _ => rfl) (fun K hK => ?_)
      go_simp
      exact hK _ _ (Below.refl _ _) rfl
    · skip
      have f0 : haF _ _ _ _ 0 σ c wr' := hd 0 (by decide) (by decide)
      simp only [haF] at f0
      clear hd
      refine StepF.of (a1 := ⟨#[.agg #[.slice a0 D.f0.length p0, .int .i64 z], .pointer (some ⟨w.heap.size, 0, none⟩), .pointer (some ⟨w.heap.size + 1, 0, none⟩), (.pointer (some ⟨w.heap.size, 0, none⟩)), σ 1, σ 2, σ 3, σ 4, σ 5], []⟩) (by simp only [f0]) rfl (fun _ => rfl) (fun K hK => ?_)
      obtain ⟨c0, c1⟩ := (PA.out.below hb PA.out.lt).two
      go_simp
      exact hK _ _ (Below.refl _ _) rfl
    · skip
      have f1 : haF _ _ _ _ 1 σ c wr' := hd 1 (by decide) (by decide)
      simp only [haF] at f1
      clear hd
      refine StepF.of (a1 := ⟨#[.agg #[.slice a0 D.f0.length p0, .int .i64 z], .pointer (some ⟨w.heap.size, 0, none⟩), .pointer (some ⟨w.heap.size + 1, 0, none⟩), σ 0, (.slice a0 D.f0.length p0), σ 2, σ 3, σ 4, σ 5], []⟩) (by simp only [f1]) rfl (fun _ => rfl) (fun K hK => ?_)
      go_simp
      refine (ieach_halfOf halfOf _ D.f0 _ (HR1.out.below hb) (by omega) (fun i hi w => halfOf_eq _ (HG.out.win i hi) w)).mono ?_
      rintro e w2 ⟨u, rfl, hu, b⟩
      exact hK u w2 b ⟨hu, hu.sform⟩
    · skip
      clear hd
      refine StepF.of (a1 := ⟨#[.agg #[.slice a0 D.f0.length p0, .int .i64 z], .pointer (some ⟨w.heap.size, 0, none⟩), .pointer (some ⟨w.heap.size + 1, 0, none⟩), σ 0, σ 1, σ 2, σ 3, σ 4, σ 5], []⟩) rfl rfl (fun _ => rfl) (fun K hK => ?_)
      go_simp
      exact hK _ _ (Below.refl _ _) rfl
    · skip
      have f3 : haF _ _ _ _ 3 σ c wr' := hd 3 (by decide) (by decide)
      simp only [haF] at f3
      clear hd
      refine StepF.of (a1 := ⟨#[.agg #[.slice a0 D.f0.length p0, .int .i64 z], .pointer (some ⟨w.heap.size, 0, none⟩), .pointer (some ⟨w.heap.size + 1, 0, none⟩), σ 0, σ 1, σ 2, (.pointer (some ⟨w.heap.size, 1, none⟩)), σ 4, σ 5], []⟩) (by simp only [f3]) rfl (fun _ => rfl) (fun K hK => ?_)
      obtain ⟨c0, c1⟩ := (PA.out.below hb PA.out.lt).two
      go_simp
      exact hK _ _ (Below.refl _ _) rfl
    · skip
      have f2 : haF _ _ _ _ 2 σ c wr' := hd 2 (by decide) (by decide)
      obtain ⟨_, a2, m2, q2, f2⟩ := f2
      have f4 : haF _ _ _ _ 4 σ c wr' := hd 4 (by decide) (by decide)
      simp only [haF] at f4
      clear hd
      refine StepF.of (a1 := ⟨#[.agg #[.slice a0 D.f0.length p0, .int .i64 z], .pointer (some ⟨w.heap.size, 0, none⟩), .pointer (some ⟨w.heap.size + 1, 0, none⟩), σ 0, σ 1, (.slice a2 m2 q2), σ 3, (.int .i64 z), σ 5], []⟩) (by simp only [f2, f4]) rfl (fun _ => rfl) (fun K hK => ?_)
      go_simp
      exact hK _ _ (Below.refl _ _) (by show _ = Value.agg #[σ 2, σ 4]; rw [f2, f4]; rfl)
end Go.Proofs.Ytepnhbicmlfnhad
