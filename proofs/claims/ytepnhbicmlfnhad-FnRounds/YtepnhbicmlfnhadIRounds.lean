/-
  impl.RoundsOf: rounds, as many as asked for. Nothing old is written.
-/
import Derived.Test.YtepnhbicmlfnhadIRepeat
import Derived.Test.YtepnhbicmlfnhadRegFacts
import Derived.Test.YtepnhbicmlfnhadIClone8
namespace Go.Proofs.Ytepnhbicmlfnhad
open Go.RowKit

/-- What the operations make. -/
def irsF (A : Nat) (v0 : Value) (z : Int) (xs : List Int) : Nat → (Nat → Value) → (Nat → Nat × Nat) → World → Prop
  | 0, σ, _, _ => σ 0 = .pointer (some ⟨A, 0, none⟩)
  | 1, σ, _, _ => σ 1 = v0
  | 2, σ, c, w => KOwn (c 2).1 (c 2).2 w (σ 2) xs ∧ ∃ a n k, σ 2 = .slice a n k
  | 3, σ, _, _ => σ 3 = .pointer (some ⟨A, 1, none⟩)
  | 4, σ, _, _ => σ 4 = .int .i64 z
  | 5, σ, _, _ => σ 5 = .agg #[σ 2, σ 4]
  | 6, σ, c, w => σ 6 = .pointer (some ⟨(c 6).1, 0, none⟩) ∧ BoxL w (c 6).1 [.slice none 0 0, .int .i64 0] ∧ (c 6).2 = (c 6).1 + 1
  | _, _, _, _ => True
theorem irsF_keep {A : Nat} {v0 : Value} {z : Int} {xs : List Int} : ∀ j ∈ [0, 1, 2, 3, 4, 5, 6], ∀ σ c w w', irsF A v0 z xs j σ c w → Below w.heap.size w w' → irsF A v0 z xs j σ c w' := by
  intro j hj σ c w w' h hb
  simp only [List.mem_cons, List.not_mem_nil, or_false] at hj; rcases hj with rfl | rfl | rfl | rfl | rfl | rfl | rfl
  · exact h
  · exact h
  · exact ⟨h.1.below hb, h.2⟩
  · exact h
  · exact h
  · exact h
  · exact ⟨h.1, h.2.1.below hb h.2.1.lt, h.2.2⟩
theorem irsF_loc {A : Nat} {v0 : Value} {z : Int} {xs : List Int} {j i : Nat} {σ : Nat → Value} {c : Nat → Nat × Nat} {w : World} {v : Value} {r : Nat × Nat} (hj : j ∈ [0, 1, 2, 3, 4, 5, 6]) (hne : i ≠ j) (hd : (j = 5 → i ≠ 2 ∧ i ≠ 4)) (h : irsF A v0 z xs j σ c w) : irsF A v0 z xs j (upd σ i v) (upd c i r) w := by
  simp only [List.mem_cons, List.not_mem_nil, or_false] at hj; rcases hj with rfl | rfl | rfl | rfl | rfl | rfl | rfl
  · simp only [irsF, upd_other _ _ (Ne.symm hne)] at h ⊢
    exact h
  · simp only [irsF, upd_other _ _ (Ne.symm hne)] at h ⊢
    exact h
  · simp only [irsF, upd_other _ _ (Ne.symm hne)] at h ⊢
    exact h
  · simp only [irsF, upd_other _ _ (Ne.symm hne)] at h ⊢
    exact h
  · simp only [irsF, upd_other _ _ (Ne.symm hne)] at h ⊢
    exact h
  · obtain ⟨d2, d4⟩ := hd rfl
    simp only [irsF, upd_other _ _ (Ne.symm hne), upd_other _ _ (Ne.symm d2), upd_other _ _ (Ne.symm d4)] at h ⊢
    exact h
  · simp only [irsF, upd_other _ _ (Ne.symm hne)] at h ⊢
    exact h
set_option maxRecDepth 100000 in
set_option maxHeartbeats 16000000 in
theorem irounds_any (v : Value) (D : ShD) (many : Int) (w : World) (hr : ShReads w v D) (X : ShD) (N : Int) (t : Bool) (hX : rndsD D many = X) (hN : rndsN D many = N) (ht : rndsOk D many = t) :
    Calls Try.prog 20 #[v, .int .i64 many] w fun e w' => ∃ u0, e = .returned (.tuple #[u0, .int .i64 N, .bool t]) ∧ ShOwn (Iv w.heap.size w'.heap.size) w' u0 X ∧ Below w.heap.size w w' := by
  have HR := hid hr
  have HX := hid hX
  have HT := hid ht
  have HN := hid hN
  obtain ⟨v0, rfl, r0⟩ := hr
  have HR0 := hid r0
  obtain ⟨a0, p0, rfl, _, _⟩ := r0
  obtain ⟨z, hz⟩ : ∃ z, z = D.f1 := ⟨_, rfl⟩
  have HZ := hid hz
  rw [← hz] at HR ⊢
  obtain ⟨t1, e1⟩ : ∃ b, goodS D = b := ⟨_, rfl⟩
  have E1 := hid e1
  have P := box_two w (.slice a0 D.f0.length p0) (.int .i64 z) (.slice none 0 0) (.int .i64 0) 25
  obtain ⟨W, hW⟩ : ∃ W, W = (w.alloc (.cells #[.slice a0 D.f0.length p0, .int .i64 z] 25)).alloc (.cells #[.slice none 0 0, .int .i64 0] 25) := ⟨_, rfl⟩
  obtain ⟨q0, q1⟩ := P.1.two
  rw [← hW] at P
  have PA := hid P.1
  have PR := hid P.2.1
  have B := hid P.2.2.1
  have hWs := P.2.2.2
  have HW := hid hW
  clear P hX ht hN hz e1 hW
  go_enter Try.func20, Try.ntmps20
  go_wp2_with fail
  rw [← HW.out]
  clear q0 q1 HW
  refine (igoodS_eq _ D t1 E1.out _ (HR.out.below B.out)).mono ?_
  rintro e w1 ⟨rfl, b1⟩
  have hs1 := b1.size
  replace B := hid (B.out.trans (b1.mono B.out.size))
  replace PA := hid (PA.out.below b1 PA.out.lt)
  replace PR := hid (PR.out.below b1 PR.out.lt)
  clear b1
  have LEAF : Hid (t = false → X = zeroS ∧ N = 0) := fun h => by
    have h2 := HT.out
    rw [h] at h2
    refine ⟨?_, ?_⟩
    · rw [← HX.out]; unfold rndsD; rw [h2]; rfl
    · rw [← HN.out]; unfold rndsN; rw [h2]; rfl
  cases t1
  · have HV : Hid (t = false) := by show _ = _; rw [← HT.out]; unfold rndsOk; rw [E1.out]; rfl
    have HV2 := hid (LEAF.out HV.out)
    obtain ⟨⟨y0, f0⟩, y1, f1⟩ := PR.out.form2
    have LF := sh_leaf PR.out B.out (by omega) (shOwn_zero (Iv (w.heap.size + 2) (w.heap.size + 2)) w1) (by omega) (by omega) (by omega)
    have HO := hid LF.1
    have HB := hid LF.2.1
    obtain ⟨t0, t1⟩ := LF.2.2
    clear LF
    go_wp2
    exact bodyPost_ret (v := .tuple #[.agg #[.slice none 0 0, .int .i64 0], .int .i64 0, .bool false]) (by simp [results, Try.results20, go_sem, t0, t1]) rfl ⟨_, by rw [HV.out, HV2.out.2], by rw [HV2.out.1]; exact HO.out, HB.out⟩
  by_cases h0 : many < 0
  · have hd0 : decide (many < 0) = true := by simpa using h0
    have HV : Hid (t = false) := by show _ = _; rw [← HT.out]; unfold rndsOk; rw [E1.out, decide_eq_false (by omega)]; rfl
    have HV2 := hid (LEAF.out HV.out)
    obtain ⟨⟨y0, f0⟩, y1, f1⟩ := PR.out.form2
    have LF := sh_leaf PR.out B.out (by omega) (shOwn_zero (Iv (w.heap.size + 2) (w.heap.size + 2)) w1) (by omega) (by omega) (by omega)
    have HO := hid LF.1
    have HB := hid LF.2.1
    obtain ⟨t0, t1⟩ := LF.2.2
    clear LF
    go_wp2
    exact bodyPost_ret (v := .tuple #[.agg #[.slice none 0 0, .int .i64 0], .int .i64 0, .bool false]) (by simp [results, Try.results20, go_sem, t0, t1]) rfl ⟨_, by rw [HV.out, HV2.out.2], by rw [HV2.out.1]; exact HO.out, HB.out⟩
  have hd0 : decide (many < 0) = false := by simpa using h0
  by_cases h40 : 40 < many
  · have hd4 : decide (40 < many) = true := by simpa using h40
    have HV : Hid (t = false) := by show _ = _; rw [← HT.out]; unfold rndsOk; rw [E1.out, decide_eq_false (by omega)]; rfl
    have HV2 := hid (LEAF.out HV.out)
    obtain ⟨⟨y0, f0⟩, y1, f1⟩ := PR.out.form2
    have LF := sh_leaf PR.out B.out (by omega) (shOwn_zero (Iv (w.heap.size + 2) (w.heap.size + 2)) w1) (by omega) (by omega) (by omega)
    have HO := hid LF.1
    have HB := hid LF.2.1
    obtain ⟨t0, t1⟩ := LF.2.2
    clear LF
    go_wp2
    exact bodyPost_ret (v := .tuple #[.agg #[.slice none 0 0, .int .i64 0], .int .i64 0, .bool false]) (by simp [results, Try.results20, go_sem, t0, t1]) rfl ⟨_, by rw [HV.out, HV2.out.2], by rw [HV2.out.1]; exact HO.out, HB.out⟩
  have hd4 : decide (40 < many) = false := by simpa using h40
  obtain ⟨m, hm⟩ : ∃ m : Nat, many = (m : Int) := ⟨many.toNat, by omega⟩
  have hm40 : m ≤ 40 := by omega
  subst hm
  have HG : Hid (GoodS D) := (goodS_iff D).1 E1.out
  have hl5 := HG.out.l5
  have HOK : Hid (rndsOk D (m : Int) = (rndsS D m).isSome) := by show _ = _; unfold rndsOk; rw [E1.out, decide_eq_true (by omega)]; simp
  have HX2 : Hid ((bif (rndsS D m).isSome then ((rndsS D m).getD (zeroS, 0)).1 else zeroS) = X) := by show _ = _; rw [← HX.out]; unfold rndsD; rw [HOK.out]; rfl
  have HN2 : Hid ((bif (rndsS D m).isSome then (((rndsS D m).getD (zeroS, 0)).2 : Int) else 0) = N) := by show _ = _; rw [← HN.out]; unfold rndsN; rw [HOK.out]; rfl
  have HT2 : Hid ((rndsS D m).isSome = t) := by show _ = _; rw [← HT.out, HOK.out]
  clear h0 h40
  go_wp2_with fail
  refine wp_region_any (by kernel_rfl) ?_
  change wpAny _ _ _ _ _ _ _ (World.drew _)
  obtain ⟨W2, hW2⟩ : ∃ W, W = World.drew w1 := ⟨_, rfl⟩
  replace PA : Hid (BoxL W2 w.heap.size [.slice a0 D.f0.length p0, .int .i64 z]) := by rw [hW2]; exact PA.out
  replace PR : Hid (BoxL W2 (w.heap.size + 1) [.slice none 0 0, .int .i64 0]) := by rw [hW2]; exact PR.out
  replace B : Hid (Below w.heap.size w W2) := by rw [hW2]; exact B.out.drew
  have hs2 : w.heap.size + 2 ≤ W2.heap.size := by rw [hW2]; show _ ≤ w1.heap.size; omega
  have HR1 := hid (HR0.out.below B.out)
  rw [← hW2]
  clear hW2 hs1 hWs
  refine wpAny_facts' 1 (Array.replicate 8 false) #[true, true, true, true, true, true, true, false] [0, 1, 2, 3, 4, 5, 6] (fun σ => #[.agg #[.slice a0 D.f0.length p0, .int .i64 z], .int .i64 (m : Nat), .pointer (some ⟨w.heap.size, 0, none⟩), undef, .pointer (some ⟨w.heap.size + 1, 0, none⟩), .int .i64 0, .bool false, σ 6, .agg #[.slice a0 D.f0.length p0, .int .i64 z], .bool true, .bool false, .bool false, .int .i64 (m : Nat), .bool false, .bool false, .bool false, .int .i64 (m : Nat), .bool false, .bool false, undef, σ 0, σ 1, σ 2, σ 3, σ 4, σ 5, undef, undef, undef, undef, undef, undef]) (irsF w.heap.size (.slice a0 D.f0.length p0) z D.f0) (fun _ => undef) rfl (by kernel_rfl) (by kernel_rfl) (by kernel_rfl) (by kernel_rfl) (by decide) irsF_keep (fun j hj i hi σ c w v r hne hd h => irsF_loc hj hne (fun e => by subst e; exact ⟨(hd 2 (by decide)).symm, (hd 4 (by decide)).symm⟩) h) ?_ ?_
  · intro σ c wr' hb hf hin hdj
    have e0 : irsF _ _ _ _ 0 σ c wr' := hf 0 (by decide)
    have e1 : irsF _ _ _ _ 1 σ c wr' := hf 1 (by decide)
    obtain ⟨k2, a2, m2, q2, e2⟩ : irsF _ _ _ _ 2 σ c wr' := hf 2 (by decide)
    have e3 : irsF _ _ _ _ 3 σ c wr' := hf 3 (by decide)
    have e4 : irsF _ _ _ _ 4 σ c wr' := hf 4 (by decide)
    have e5 : irsF _ _ _ _ 5 σ c wr' := hf 5 (by decide)
    obtain ⟨e6, hX, hc6⟩ : irsF _ _ _ _ 6 σ c wr' := hf 6 (by decide)
    simp only [irsF] at e0 e1 e3 e4 e5
    rw [e2] at k2 e5
    rw [e4] at e5
    have n2 := hin 2 (by decide)
    have n6 := hin 6 (by decide)
    have d26 := hdj 2 (by decide) 6 (by decide) (by decide)
    obtain ⟨b7, hb7⟩ : ∃ b7, b7 = (c 6).1 := ⟨_, rfl⟩
    rw [← hb7] at e6 hX hc6 n6
    clear hf hin hdj
    try dsimp only
    rw [e0, e1, e2, e3, e4, e5, e6]
    replace PR := hid (PR.out.below hb PR.out.lt)
    replace B := hid (B.out.trans (hb.mono B.out.size))
    have hs3 : W2.heap.size ≤ wr'.heap.size := hb.size
    obtain ⟨⟨x0, g0⟩, x1, g1⟩ := hX.form2
    obtain ⟨V, hV⟩ : ∃ V, V = (wr'.setCell ⟨b7, 0, none⟩ (.slice a2 m2 q2)).setCell ⟨b7, 1, none⟩ (.int .i64 z) := ⟨_, rfl⟩
    have ON := two_only wr' b7 (.slice a2 m2 q2) (.int .i64 z)
    have P7 : Hid (BoxL V b7 [.slice a2 m2 q2, .int .i64 z]) := by rw [hV]; exact two_put hX _ _
    rw [← hV] at ON
    have hsV : V.heap.size = wr'.heap.size := ON.1
    replace PR := hid (PR.out.of_block (ON.2.1 _ (by omega)))
    replace B := hid (B.out.trans (ON.below fun j e => by omega))
    have O7 : Hid (ShOwn (Iv (w.heap.size + 2) V.heap.size) V (.agg #[.slice a2 m2 q2, .int .i64 z]) D) := by
      have hzz := HZ.out
      rw [hzz]
      unfold Dj at d26
      have d27 : (c 2).2 ≤ b7 ∨ b7 + 1 ≤ (c 2).1 := by rw [hb7]; omega
      exact ShOwn.mk1 (k2.at fun g h1 h2 _ => ON.2.1 g (by omega)) n2.2.1 (fun g h1 h2 => by show _ ∧ _; omega)
    have hsV2 : w.heap.size + 2 ≤ V.heap.size := by omega
    clear hb k2 n2 n6 d26 hX hc6 e0 e1 e2 e3 e4 e5 e6 ON hb7 HR1
    have HVV := hid hV
    clear hV
    refine wpAny_ready (rs := [7]) (by kernel_rfl) (by simp) ?_
    refine AllReady.cons rfl (fun K hK => ?_) AllReady.nil
    go_simp
    refine hK _ _ ?_
    clear hK K
    refine wpAny_done (by kernel_rfl) ?_ _
    rw [← HVV.out]
    clear HVV x0 g0 x1 g1
    obtain ⟨q0, q1⟩ := P7.out.two
    go_wp2_with fail
    refine (irepeat_any a2 m2 q2 z D m (w.heap.size + 2) _ O7.out HZ.out HG.out hm40 hsV2 X N t HX2.out HN2.out HT2.out).mono ?_
    rintro e w3 ⟨u0, rfl, o3, b3⟩
    obtain ⟨a3, n3, k3, rfl⟩ := o3.form
    obtain ⟨z3, hz3⟩ : ∃ z3, z3 = X.f1 := ⟨_, rfl⟩
    rw [← hz3] at o3 ⊢
    have hs5 := b3.size
    replace B := hid (B.out.trans (b3.mono B.out.size))
    replace PR := hid (PR.out.below b3 PR.out.lt)
    have LF := sh_leaf PR.out B.out (by omega) o3 (by omega) (Nat.le_refl _) (by omega)
    have HO := hid LF.1
    have HB := hid LF.2.1
    obtain ⟨t0, t1⟩ := LF.2.2
    obtain ⟨⟨y0, f0⟩, y1, f1⟩ := PR.out.form2
    clear LF b3 o3 hz3 q0 q1 P7 O7
    go_wp2
    exact bodyPost_ret (v := .tuple #[.agg #[.slice a3 n3 k3, .int .i64 z3], .int .i64 N, .bool t]) (by simp [results, Try.results20, go_sem, t0, t1]) rfl ⟨_, rfl, HO.out, HB.out⟩
  · intro i hi σ c wr' hb hd
    simp only [List.mem_cons, List.not_mem_nil, or_false] at hi; rcases hi with rfl | rfl | rfl | rfl | rfl | rfl | rfl
    · skip
      clear hd
      refine StepF.of (a1 := ⟨#[.agg #[.slice a0 D.f0.length p0, .int .i64 z], .int .i64 (m : Nat), .pointer (some ⟨w.heap.size, 0, none⟩), undef, .pointer (some ⟨w.heap.size + 1, 0, none⟩), .int .i64 0, .bool false, σ 6, .agg #[.slice a0 D.f0.length p0, .int .i64 z], .bool true, .bool false, .bool false, .int .i64 (m : Nat), .bool false, .bool false, .bool false, .int .i64 (m : Nat), .bool false, .bool false, undef, σ 0, σ 1, σ 2, σ 3, σ 4, σ 5, undef, undef, undef, undef, undef, undef], []⟩) rfl rfl (fun _ => rfl) (fun K hK => ?_)
      go_simp
      exact hK _ _ (Below.refl _ _) rfl
    · skip
      have f0 : irsF _ _ _ _ 0 σ c wr' := hd 0 (by decide) (by decide)
      simp only [irsF] at f0
      clear hd
      refine StepF.of (a1 := ⟨#[.agg #[.slice a0 D.f0.length p0, .int .i64 z], .int .i64 (m : Nat), .pointer (some ⟨w.heap.size, 0, none⟩), undef, .pointer (some ⟨w.heap.size + 1, 0, none⟩), .int .i64 0, .bool false, σ 6, .agg #[.slice a0 D.f0.length p0, .int .i64 z], .bool true, .bool false, .bool false, .int .i64 (m : Nat), .bool false, .bool false, .bool false, .int .i64 (m : Nat), .bool false, .bool false, undef, (.pointer (some ⟨w.heap.size, 0, none⟩)), σ 1, σ 2, σ 3, σ 4, σ 5, undef, undef, undef, undef, undef, undef], []⟩) (by simp only [f0]) rfl (fun _ => rfl) (fun K hK => ?_)
      obtain ⟨c0, c1⟩ := (PA.out.below hb PA.out.lt).two
      go_simp
      exact hK _ _ (Below.refl _ _) rfl
    · skip
      have f1 : irsF _ _ _ _ 1 σ c wr' := hd 1 (by decide) (by decide)
      simp only [irsF] at f1
      clear hd
      refine StepF.of (a1 := ⟨#[.agg #[.slice a0 D.f0.length p0, .int .i64 z], .int .i64 (m : Nat), .pointer (some ⟨w.heap.size, 0, none⟩), undef, .pointer (some ⟨w.heap.size + 1, 0, none⟩), .int .i64 0, .bool false, σ 6, .agg #[.slice a0 D.f0.length p0, .int .i64 z], .bool true, .bool false, .bool false, .int .i64 (m : Nat), .bool false, .bool false, .bool false, .int .i64 (m : Nat), .bool false, .bool false, undef, σ 0, (.slice a0 D.f0.length p0), σ 2, σ 3, σ 4, σ 5, undef, undef, undef, undef, undef, undef], []⟩) (by simp only [f1]) rfl (fun _ => rfl) (fun K hK => ?_)
      go_simp
      refine (kclone_any _ D.f0 _ (HR1.out.below hb) (by omega)).mono ?_
      rintro e w2 ⟨u, rfl, hu, _, b⟩
      exact hK u w2 b ⟨hu, hu.sform⟩
    · skip
      clear hd
      refine StepF.of (a1 := ⟨#[.agg #[.slice a0 D.f0.length p0, .int .i64 z], .int .i64 (m : Nat), .pointer (some ⟨w.heap.size, 0, none⟩), undef, .pointer (some ⟨w.heap.size + 1, 0, none⟩), .int .i64 0, .bool false, σ 6, .agg #[.slice a0 D.f0.length p0, .int .i64 z], .bool true, .bool false, .bool false, .int .i64 (m : Nat), .bool false, .bool false, .bool false, .int .i64 (m : Nat), .bool false, .bool false, undef, σ 0, σ 1, σ 2, σ 3, σ 4, σ 5, undef, undef, undef, undef, undef, undef], []⟩) rfl rfl (fun _ => rfl) (fun K hK => ?_)
      go_simp
      exact hK _ _ (Below.refl _ _) rfl
    · skip
      have f3 : irsF _ _ _ _ 3 σ c wr' := hd 3 (by decide) (by decide)
      simp only [irsF] at f3
      clear hd
      refine StepF.of (a1 := ⟨#[.agg #[.slice a0 D.f0.length p0, .int .i64 z], .int .i64 (m : Nat), .pointer (some ⟨w.heap.size, 0, none⟩), undef, .pointer (some ⟨w.heap.size + 1, 0, none⟩), .int .i64 0, .bool false, σ 6, .agg #[.slice a0 D.f0.length p0, .int .i64 z], .bool true, .bool false, .bool false, .int .i64 (m : Nat), .bool false, .bool false, .bool false, .int .i64 (m : Nat), .bool false, .bool false, undef, σ 0, σ 1, σ 2, (.pointer (some ⟨w.heap.size, 1, none⟩)), σ 4, σ 5, undef, undef, undef, undef, undef, undef], []⟩) (by simp only [f3]) rfl (fun _ => rfl) (fun K hK => ?_)
      obtain ⟨c0, c1⟩ := (PA.out.below hb PA.out.lt).two
      go_simp
      exact hK _ _ (Below.refl _ _) rfl
    · skip
      have f2 : irsF _ _ _ _ 2 σ c wr' := hd 2 (by decide) (by decide)
      obtain ⟨_, a2, m2, q2, f2⟩ := f2
      have f4 : irsF _ _ _ _ 4 σ c wr' := hd 4 (by decide) (by decide)
      simp only [irsF] at f4
      clear hd
      refine StepF.of (a1 := ⟨#[.agg #[.slice a0 D.f0.length p0, .int .i64 z], .int .i64 (m : Nat), .pointer (some ⟨w.heap.size, 0, none⟩), undef, .pointer (some ⟨w.heap.size + 1, 0, none⟩), .int .i64 0, .bool false, σ 6, .agg #[.slice a0 D.f0.length p0, .int .i64 z], .bool true, .bool false, .bool false, .int .i64 (m : Nat), .bool false, .bool false, .bool false, .int .i64 (m : Nat), .bool false, .bool false, undef, σ 0, σ 1, (.slice a2 m2 q2), σ 3, (.int .i64 z), σ 5, undef, undef, undef, undef, undef, undef], []⟩) (by simp only [f2, f4]) rfl (fun _ => rfl) (fun K hK => ?_)
      go_simp
      exact hK _ _ (Below.refl _ _) (by show _ = Value.agg #[σ 2, σ 4]; rw [f2, f4]; rfl)
    · skip
      clear hd
      refine StepF.of (a1 := ⟨#[.agg #[.slice a0 D.f0.length p0, .int .i64 z], .int .i64 (m : Nat), .pointer (some ⟨w.heap.size, 0, none⟩), undef, .pointer (some ⟨w.heap.size + 1, 0, none⟩), .int .i64 0, .bool false, σ 6, .agg #[.slice a0 D.f0.length p0, .int .i64 z], .bool true, .bool false, .bool false, .int .i64 (m : Nat), .bool false, .bool false, .bool false, .int .i64 (m : Nat), .bool false, .bool false, undef, σ 0, σ 1, σ 2, σ 3, σ 4, σ 5, undef, undef, undef, undef, undef, undef], []⟩) rfl rfl (fun _ => rfl) (fun K hK => ?_)
      go_simp
      exact hK _ _ ((Below.refl _ _).alloc (Nat.le_refl _) _) ⟨rfl, boxL_new wr' [.slice none 0 0, .int .i64 0] 25, by simp [upd]⟩
end Go.Proofs.Ytepnhbicmlfnhad
