/-
  spec.RoundsOf: rounds, as many as asked for. Nothing old is written.
-/
import Derived.Test.YtepnhbicmlfnhadSRound
import Derived.Test.YtepnhbicmlfnhadSGoodSh
import Derived.Test.YtepnhbicmlfnhadSBit
import Derived.Test.YtepnhbicmlfnhadRegFacts
import Derived.Test.YtepnhbicmlfnhadStepApp
namespace Go.Proofs.Ytepnhbicmlfnhad
open Go.RowKit

/-- What the operations make. -/
def rosF (A : Nat) (v0 : Value) (z : Int) (xs : List Int) : Nat → (Nat → Value) → (Nat → Nat × Nat) → World → Prop
  | 0, σ, _, _ => ∃ b, σ 0 = .slice (some ⟨b, 0, none⟩) 0 0
  | 1, σ, _, _ => σ 1 = .pointer (some ⟨A, 0, none⟩)
  | 2, σ, _, _ => σ 2 = v0
  | 3, σ, c, w => KOwn (c 3).1 (c 3).2 w (σ 3) xs ∧ ∃ a n k, σ 3 = .slice a n k
  | 4, σ, _, _ => σ 4 = .pointer (some ⟨A, 1, none⟩)
  | 5, σ, _, _ => σ 5 = .int .i64 z
  | 6, σ, _, _ => σ 6 = .agg #[σ 3, σ 5]
  | 7, σ, c, w => σ 7 = .pointer (some ⟨(c 7).1, 0, none⟩) ∧ BoxL w (c 7).1 [.slice none 0 0, .int .i64 0] ∧ (c 7).2 = (c 7).1 + 1
  | _, _, _, _ => True
theorem rosF_keep {A : Nat} {v0 : Value} {z : Int} {xs : List Int} : ∀ j ∈ [0, 1, 2, 3, 4, 5, 6, 7], ∀ σ c w w', rosF A v0 z xs j σ c w → Below w.heap.size w w' → rosF A v0 z xs j σ c w' := by
  intro j hj σ c w w' h hb
  simp only [List.mem_cons, List.not_mem_nil, or_false] at hj; rcases hj with rfl | rfl | rfl | rfl | rfl | rfl | rfl | rfl
  · exact h
  · exact h
  · exact h
  · exact ⟨h.1.below hb, h.2⟩
  · exact h
  · exact h
  · exact h
  · exact ⟨h.1, h.2.1.below hb h.2.1.lt, h.2.2⟩
theorem rosF_loc {A : Nat} {v0 : Value} {z : Int} {xs : List Int} {j i : Nat} {σ : Nat → Value} {c : Nat → Nat × Nat} {w : World} {v : Value} {r : Nat × Nat} (hj : j ∈ [0, 1, 2, 3, 4, 5, 6, 7]) (hne : i ≠ j) (hd : (j = 6 → i ≠ 3 ∧ i ≠ 5)) (h : rosF A v0 z xs j σ c w) : rosF A v0 z xs j (upd σ i v) (upd c i r) w := by
  simp only [List.mem_cons, List.not_mem_nil, or_false] at hj; rcases hj with rfl | rfl | rfl | rfl | rfl | rfl | rfl | rfl
  · simp only [rosF, upd_other _ _ (Ne.symm hne)] at h ⊢
    exact h
  · simp only [rosF, upd_other _ _ (Ne.symm hne)] at h ⊢
    exact h
  · simp only [rosF, upd_other _ _ (Ne.symm hne)] at h ⊢
    exact h
  · simp only [rosF, upd_other _ _ (Ne.symm hne)] at h ⊢
    exact h
  · simp only [rosF, upd_other _ _ (Ne.symm hne)] at h ⊢
    exact h
  · simp only [rosF, upd_other _ _ (Ne.symm hne)] at h ⊢
    exact h
  · obtain ⟨d3, d5⟩ := hd rfl
    simp only [rosF, upd_other _ _ (Ne.symm hne), upd_other _ _ (Ne.symm d3), upd_other _ _ (Ne.symm d5)] at h ⊢
    exact h
  · simp only [rosF, upd_other _ _ (Ne.symm hne)] at h ⊢
    exact h
set_option maxRecDepth 100000 in
set_option maxHeartbeats 8000000 in
theorem srounds_any (v : Value) (D : ShD) (many : Int) (w : World) (hr : ShReads w v D) (X : ShD) (N : Int) (t : Bool) (hX : rndsD D many = X) (hN : rndsN D many = N) (ht : rndsOk D many = t) :
    Calls Try.prog 21 #[v, .int .i64 many] w fun e w' => ∃ u0, e = .returned (.tuple #[u0, .int .i64 N, .bool t]) ∧ ShOwn (Iv w.heap.size w'.heap.size) w' u0 X ∧ Below w.heap.size w w' := by
  have HR := hid hr
  have HX := hid hX
  have HT := hid ht
  have HN := hid hN
  obtain ⟨v0, rfl, r0⟩ := hr
  have HR0 := hid r0
  obtain ⟨a0, p0, rfl, _, _⟩ := r0
  obtain ⟨z, hz⟩ : ∃ z, z = D.f1 := ⟨_, rfl⟩
  have HZ := hid hz
  rw [← hz] at HR ⊢
  obtain ⟨t1, e1⟩ : ∃ b, goodS D = b := ⟨_, rfl⟩
  have E1 := hid e1
  obtain ⟨t2, e2⟩ : ∃ b, decide (0 ≤ many ∧ many ≤ 40) = b := ⟨_, rfl⟩
  have E2 := hid e2
  have P := box_two w (.slice a0 D.f0.length p0) (.int .i64 z) (.slice none 0 0) (.int .i64 0) 25
  obtain ⟨W, hW⟩ : ∃ W, W = (w.alloc (.cells #[.slice a0 D.f0.length p0, .int .i64 z] 25)).alloc (.cells #[.slice none 0 0, .int .i64 0] 25) := ⟨_, rfl⟩
  obtain ⟨q0, q1⟩ := P.1.two
  rw [← hW] at P
  have PA := hid P.1
  have PR := hid P.2.1
  have B := hid P.2.2.1
  have hWs := P.2.2.2
  have HW := hid hW
  clear P hX ht hN hz e1 e2 hW
  go_enter Try.func21, Try.ntmps21
  go_wp2_with fail
  rw [← HW.out]
  clear q0 q1 HW
  refine (sgoodS_eq _ D t1 E1.out _ (HR.out.below B.out)).mono ?_
  rintro e w1 ⟨rfl, b1⟩
  have hs1 := b1.size
  replace B := hid (B.out.trans (b1.mono B.out.size))
  replace PA := hid (PA.out.below b1 PA.out.lt)
  replace PR := hid (PR.out.below b1 PR.out.lt)
  clear b1
  have LEAF : Hid (t = false → X = zeroS ∧ N = 0) := fun h => by
    have h2 := HT.out
    rw [h] at h2
    refine ⟨?_, ?_⟩
    · rw [← HX.out]; unfold rndsD; rw [h2]; rfl
    · rw [← HN.out]; unfold rndsN; rw [h2]; rfl
  cases t1
  · have HV : Hid (t = false) := by show _ = _; rw [← HT.out]; unfold rndsOk; rw [E1.out]; rfl
    have HV2 := hid (LEAF.out HV.out)
    obtain ⟨⟨y0, f0⟩, y1, f1⟩ := PR.out.form2
    have LF := sh_leaf PR.out B.out (by omega) (shOwn_zero (Iv (w.heap.size + 2) (w.heap.size + 2)) w1) (by omega) (by omega) (by omega)
    have HO := hid LF.1
    have HB := hid LF.2.1
    obtain ⟨t0, t1⟩ := LF.2.2
    clear LF
    go_wp2
    exact bodyPost_ret (v := .tuple #[.agg #[.slice none 0 0, .int .i64 0], .int .i64 0, .bool false]) (by simp [results, Try.results21, go_sem, t0, t1]) rfl ⟨_, by rw [HV.out, HV2.out.2], by rw [HV2.out.1]; exact HO.out, HB.out⟩
  go_wp2_with fail
  refine (l1In_eq many 0 40 t2 E2.out _).mono ?_
  rintro e w' ⟨rfl, hw⟩; obtain rfl := hw.symm
  cases t2
  · have HV : Hid (t = false) := by show _ = _; rw [← HT.out]; unfold rndsOk; rw [E1.out, E2.out]; rfl
    have HV2 := hid (LEAF.out HV.out)
    obtain ⟨⟨y0, f0⟩, y1, f1⟩ := PR.out.form2
    have LF := sh_leaf PR.out B.out (by omega) (shOwn_zero (Iv (w.heap.size + 2) (w.heap.size + 2)) w1) (by omega) (by omega) (by omega)
    have HO := hid LF.1
    have HB := hid LF.2.1
    obtain ⟨t0, t1⟩ := LF.2.2
    clear LF
    go_wp2
    exact bodyPost_ret (v := .tuple #[.agg #[.slice none 0 0, .int .i64 0], .int .i64 0, .bool false]) (by simp [results, Try.results21, go_sem, t0, t1]) rfl ⟨_, by rw [HV.out, HV2.out.2], by rw [HV2.out.1]; exact HO.out, HB.out⟩
  obtain ⟨m, hm⟩ : ∃ m : Nat, many = (m : Int) := ⟨many.toNat, by have := E2.out; rw [decide_eq_true_eq] at this; omega⟩
  have hm40 : m ≤ 40 := by have := E2.out; rw [decide_eq_true_eq] at this; omega
  subst hm
  have HG : Hid (GoodS D) := (goodS_iff D).1 E1.out
  have hl5 := HG.out.l5
  have HOK : Hid (rndsOk D (m : Int) = (rndsS D m).isSome) := by show _ = _; unfold rndsOk; rw [E1.out, E2.out]; simp
  go_wp2_with fail
  refine wp_region_any (by kernel_rfl) ?_
  change wpAny _ _ _ _ _ _ _ (World.drew _)
  obtain ⟨W2, hW2⟩ : ∃ W, W = World.drew w1 := ⟨_, rfl⟩
  replace PA : Hid (BoxL W2 w.heap.size [.slice a0 D.f0.length p0, .int .i64 z]) := by rw [hW2]; exact PA.out
  replace PR : Hid (BoxL W2 (w.heap.size + 1) [.slice none 0 0, .int .i64 0]) := by rw [hW2]; exact PR.out
  replace B : Hid (Below w.heap.size w W2) := by rw [hW2]; exact B.out.drew
  have hs2 : w.heap.size + 2 ≤ W2.heap.size := by rw [hW2]; show _ ≤ w1.heap.size; omega
  have HR1 := hid (HR0.out.below B.out)
  rw [← hW2]
  clear hW2 hs1 hWs
  refine wpAny_facts' 1 (Array.replicate 9 false) #[true, true, true, true, true, true, true, true, false] [0, 1, 2, 3, 4, 5, 6, 7] (fun σ => #[.agg #[.slice a0 D.f0.length p0, .int .i64 z], .int .i64 (m : Nat), .pointer (some ⟨w.heap.size, 0, none⟩), undef, .pointer (some ⟨w.heap.size + 1, 0, none⟩), .int .i64 0, .bool false, σ 7, undef, undef, undef, .agg #[.slice a0 D.f0.length p0, .int .i64 z], .bool true, .bool false, .bool false, .int .i64 (m : Nat), .bool true, .bool false, .bool false, undef, σ 0, σ 1, σ 2, σ 3, σ 4, σ 5, σ 6, undef, undef, undef, undef, undef, undef, undef, undef, undef, undef, undef, undef, undef, undef, undef, undef, undef, undef, undef, undef]) (rosF w.heap.size (.slice a0 D.f0.length p0) z D.f0) (fun _ => undef) rfl (by kernel_rfl) (by kernel_rfl) (by kernel_rfl) (by kernel_rfl) (by decide) rosF_keep (fun j hj i hi σ c w v r hne hd h => rosF_loc hj hne (fun e => by subst e; exact ⟨(hd 3 (by decide)).symm, (hd 5 (by decide)).symm⟩) h) ?_ ?_
  · intro σ c wr' hb hf hin hdj
    obtain ⟨bb, e0⟩ : rosF _ _ _ _ 0 σ c wr' := hf 0 (by decide)
    have e1 : rosF _ _ _ _ 1 σ c wr' := hf 1 (by decide)
    have e2 : rosF _ _ _ _ 2 σ c wr' := hf 2 (by decide)
    obtain ⟨k3, a3, m3, q3, e3⟩ : rosF _ _ _ _ 3 σ c wr' := hf 3 (by decide)
    have e4 : rosF _ _ _ _ 4 σ c wr' := hf 4 (by decide)
    have e5 : rosF _ _ _ _ 5 σ c wr' := hf 5 (by decide)
    have e6 : rosF _ _ _ _ 6 σ c wr' := hf 6 (by decide)
    obtain ⟨e7, hX, hc7⟩ : rosF _ _ _ _ 7 σ c wr' := hf 7 (by decide)
    simp only [rosF] at e1 e2 e4 e5 e6
    rw [e3] at k3 e6
    rw [e5] at e6
    have n3 := hin 3 (by decide)
    have n7 := hin 7 (by decide)
    have d37 := hdj 3 (by decide) 7 (by decide) (by decide)
    obtain ⟨b7, hb7⟩ : ∃ b7, b7 = (c 7).1 := ⟨_, rfl⟩
    rw [← hb7] at e7 hX hc7 n7
    clear hf hin hdj
    try dsimp only
    rw [e0, e1, e2, e3, e4, e5, e6, e7]
    replace PR := hid (PR.out.below hb PR.out.lt)
    replace B := hid (B.out.trans (hb.mono B.out.size))
    have hs3 : W2.heap.size ≤ wr'.heap.size := hb.size
    obtain ⟨⟨x0, g0⟩, x1, g1⟩ := hX.form2
    obtain ⟨V, hV⟩ : ∃ V, V = (wr'.setCell ⟨b7, 0, none⟩ (.slice a3 m3 q3)).setCell ⟨b7, 1, none⟩ (.int .i64 z) := ⟨_, rfl⟩
    have ON := two_only wr' b7 (.slice a3 m3 q3) (.int .i64 z)
    have P7 : Hid (BoxL V b7 [.slice a3 m3 q3, .int .i64 z]) := by rw [hV]; exact two_put hX _ _
    rw [← hV] at ON
    have hsV : V.heap.size = wr'.heap.size := ON.1
    replace PR := hid (PR.out.of_block (ON.2.1 _ (by omega)))
    replace B := hid (B.out.trans (ON.below fun j e => by omega))
    have O7 : Hid (ShOwn (Iv (w.heap.size + 2) V.heap.size) V (.agg #[.slice a3 m3 q3, .int .i64 z]) D) := by
      have hzz := HZ.out
      rw [hzz]
      unfold Dj at d37
      have d38 : (c 3).2 ≤ b7 ∨ b7 + 1 ≤ (c 3).1 := by rw [hb7]; omega
      exact ShOwn.mk1 (k3.at fun g h1 h2 _ => ON.2.1 g (by omega)) n3.2.1 (fun g h1 h2 => by show _ ∧ _; omega)
    have hb7V : b7 < V.heap.size := by omega
    have hb7w : w.heap.size + 2 ≤ b7 := by omega
    clear hb k3 n3 n7 d37 hX hc7 e0 e1 e2 e3 e4 e5 e6 e7 ON hb7 HR1
    have HVV := hid hV
    clear hV
    refine wpAny_ready (rs := [8]) (by kernel_rfl) (by simp) ?_
    refine AllReady.cons rfl (fun K hK => ?_) AllReady.nil
    go_simp
    refine hK _ _ ?_
    clear hK K
    refine wpAny_done (by kernel_rfl) ?_ _
    rw [← HVV.out]
    clear HVV x0 g0 x1 g1
    go_wp2
    go_loopw [1, 8] (fun mv nv wr => ∃ (k j n : Nat) (E : ShD) (a : Option Addr) (l q : Nat), mv = .int .i64 (j : Nat) ∧ k + j = m ∧ nv = .int .i64 (n : Nat) ∧ rndsS D k = some (E, n) ∧ BoxL wr b7 [.slice a l q, .int .i64 E.f1] ∧ ShOwn (Iv (w.heap.size + 2) wr.heap.size) wr (.agg #[.slice a l q, .int .i64 E.f1]) E ∧ (V.heap.size ≤ wr.heap.size ∧ BoxL wr (w.heap.size + 1) [.slice none 0 0, .int .i64 0] ∧ Below w.heap.size w wr)) (fun mv _ _ => (intOf mv).toNat)
    case atStart => exact ⟨0, m, 0, D, a3, m3, q3, rfl, by omega, rfl, rfl, by rw [← HZ.out]; exact P7.out, by rw [← HZ.out]; exact O7.out, Nat.le_refl _, PR.out, B.out⟩
    case round =>
      obtain ⟨k, j, n, E, a, l, q, rfl, hkj, rfl, hE, hb7, hO, hVs, hPR, hBl⟩ := hrel
      have HE := hid hE
      have HB7 := hid hb7
      have HO := hid hO
      have HPR := hid hPR
      have HBL := hid hBl
      clear hE hb7 hO hPR hBl
      have HGE : Hid (GoodS E) := rndsS_good HG.out HE.out
      have hn : n ≤ k := rndsS_le HE.out
      obtain ⟨zE, hzE⟩ : ∃ z, z = E.f1 := ⟨_, rfl⟩
      rw [← hzE] at HB7 HO
      clear hzE P7 O7 PR B
      by_cases hj : 0 < j
      · have hjd : decide ((j : Int) > 0) = true := by rw [decide_eq_true_eq]; omega
        have hjd' : (0 : Int) < (j : Int) := by omega
        obtain ⟨q0, q1⟩ := HB7.out.two
        obtain ⟨h1, eh⟩ : ∃ b, overS E = b := ⟨_, rfl⟩
        have EH := hid eh
        clear eh
        go_wp2_with fail
        refine (sround_any _ E _ HO.out.reads HGE.out h1 EH.out).mono ?_
        rintro e w2 ⟨u0, rfl, o2, b2⟩
        obtain ⟨a2, n2, k2, rfl⟩ := o2.form
        obtain ⟨z2, hz2⟩ : ∃ z2, z2 = (rndS E).f1 := ⟨_, rfl⟩
        rw [← hz2] at o2 ⊢
        have HZ2 := hid hz2
        have hs4 := b2.size
        replace HBL := hid (HBL.out.trans (b2.mono HBL.out.size))
        replace HPR := hid (HPR.out.below b2 HPR.out.lt)
        replace HB7 := hid (HB7.out.below b2 HB7.out.lt)
        have O := hid o2
        clear b2 q0 q1 o2 hz2 HO
        obtain ⟨P5, B5, hs5⟩ := box_next (w := w2) (.slice a2 n2 k2) (.int .i64 z2) 25
        obtain ⟨q0, q1⟩ := P5.two
        obtain ⟨V5, hV5⟩ : ∃ V, V = w2.alloc (.cells #[.slice a2 n2 k2, .int .i64 z2] 25) := ⟨_, rfl⟩
        rw [← hV5] at B5 hs5 P5
        replace HBL := hid (HBL.out.trans (B5.mono HBL.out.size))
        replace HPR := hid (HPR.out.below B5 HPR.out.lt)
        replace HB7 := hid (HB7.out.below B5 HB7.out.lt)
        replace O := hid (O.out.below B5)
        have HP5 := hid P5
        have HV5 := hid hV5
        clear P5 B5 hV5
        obtain ⟨t2, e2⟩ : ∃ b, goodS (rndS E) = b := ⟨_, rfl⟩
        have ET := hid e2
        clear e2
        go_wp2_with fail
        rw [← HV5.out]
        clear q0 q1 HV5
        refine (sgoodS_eq _ (rndS E) t2 ET.out _ O.out.reads).mono ?_
        rintro e w3 ⟨rfl, b3⟩
        have hs6 := b3.size
        replace HBL := hid (HBL.out.trans (b3.mono HBL.out.size))
        replace HPR := hid (HPR.out.below b3 HPR.out.lt)
        replace HB7 := hid (HB7.out.below b3 HB7.out.lt)
        replace HP5 := hid (HP5.out.below b3 HP5.out.lt)
        replace O := hid (O.out.below b3)
        clear b3
        cases t2
        · have HNO : Hid (rndsS D (k + 1) = none) := by show _ = _; rw [rndsS_step HE.out, ET.out]; rfl
          have HV : Hid (t = false) := by show _ = _; rw [← HT.out, HOK.out, rndsS_none HNO.out m (by omega)]; rfl
          have HV2 := hid (LEAF.out HV.out)
          obtain ⟨⟨y0, f0⟩, y1, f1⟩ := HPR.out.form2
          have LF := sh_leaf HPR.out HBL.out (by omega) (shOwn_zero (Iv (w.heap.size + 2) (w.heap.size + 2)) w3) (by omega) (by omega) (by omega)
          have HOO := hid LF.1
          have HB := hid LF.2.1
          obtain ⟨t0, t1⟩ := LF.2.2
          clear LF O HP5 HB7 HE
          go_wp2
          exact bodyPost_ret (v := .tuple #[.agg #[.slice none 0 0, .int .i64 0], .int .i64 0, .bool false]) (by simp [results, Try.results21, go_sem, t0, t1]) rfl ⟨_, by rw [HV.out, HV2.out.2], by rw [HV2.out.1]; exact HOO.out, HB.out⟩
        · have HST : Hid (rndsS D (k + 1) = some (rndS E, n + bitN h1)) := by show _ = _; rw [rndsS_step HE.out, ET.out, EH.out]; rfl
          have ON := two_only w3 b7 (.slice a2 n2 k2) (.int .i64 z2)
          have PN := two_put HB7.out (.slice a2 n2 k2) (.int .i64 z2)
          obtain ⟨U, hU⟩ : ∃ U, U = (w3.setCell ⟨b7, 0, none⟩ (.slice a2 n2 k2)).setCell ⟨b7, 1, none⟩ (.int .i64 z2) := ⟨_, rfl⟩
          rw [← hU] at ON PN
          have hsU : U.heap.size = w3.heap.size := ON.1
          have HPN := hid PN
          have HON : Hid (ShOwn (Iv (w.heap.size + 2) U.heap.size) U (.agg #[.slice a2 n2 k2, .int .i64 z2]) (rndS E)) := (O.out.at fun g hg _ => ON.2.1 g (by rintro rfl; have : wr.heap.size ≤ g ∧ g < w2.heap.size := hg; omega)).mono fun g hg => by have : wr.heap.size ≤ g ∧ g < w2.heap.size := hg; show _ ∧ _; omega
          have HPRN := hid (HPR.out.of_block (ON.2.1 _ (by omega)))
          have HBLN := hid (HBL.out.trans (ON.below fun j e => by omega))
          obtain ⟨q0, q1⟩ := HP5.out.two
          obtain ⟨⟨y0, f0⟩, y1, f1⟩ := HB7.out.form2
          have HU := hid hU
          clear ON PN hU O HPR HBL HP5
          go_wp2_with fail
          rw [← HU.out]
          clear q0 q1 y0 f0 y1 f1 HU HB7
          refine (l1Bit_eq h1 (bitN h1 : Nat) (by cases h1 <;> rfl) _).mono ?_
          rintro e w' ⟨rfl, hw⟩; obtain rfl := hw.symm
          have hbb : bitN h1 ≤ 1 := by unfold bitN; cases h1 <;> simp
          obtain ⟨b1, hb1⟩ : ∃ b1, b1 = bitN h1 := ⟨_, rfl⟩
          rw [← hb1] at HST hbb ⊢
          have hw1 : IntKind.i64.wrap ((n : Int) + (b1 : Int)) = ((n + b1 : Nat) : Int) := by rw [IntKind.wrap_i64]; omega
          have hw2 : IntKind.i64.wrap ((j : Int) - 1) = ((j - 1 : Nat) : Int) := by rw [IntKind.wrap_i64]; omega
          have hz2 := HZ2.out
          rw [hz2] at HPN HON
          clear hb1 hz2 HE
          go_wp2
          go_roundw
          case rel => exact ⟨k + 1, j - 1, n + b1, rndS E, a2, n2, k2, rfl, by omega, rfl, HST.out, HPN.out, HON.out, by omega, HPRN.out, HBLN.out⟩
          case measure => simp [intOf]; omega
      · obtain rfl : j = 0 := by omega
        obtain rfl : k = m := by omega
        have HV : Hid (t = true) := by show _ = _; rw [← HT.out, HOK.out, HE.out]; rfl
        have HV2 : Hid (X = E) := by show _ = _; rw [← HX.out]; unfold rndsD; rw [HOK.out]; show (bif (rndsS D k).isSome then ((rndsS D k).getD (zeroS, 0)).1 else zeroS) = E; rw [HE.out]; rfl
        have HV3 : Hid (N = (n : Int)) := by show _ = _; rw [← HN.out]; unfold rndsN; rw [HOK.out]; show (bif (rndsS D k).isSome then (((rndsS D k).getD (zeroS, 0)).2 : Int) else 0) = (n : Int); rw [HE.out]; rfl
        obtain ⟨q0, q1⟩ := HB7.out.two
        obtain ⟨⟨y0, f0⟩, y1, f1⟩ := HPR.out.form2
        have LF := sh_leaf HPR.out HBL.out (by omega) HO.out (by omega) (Nat.le_refl _) (by omega)
        have HOO := hid LF.1
        have HB := hid LF.2.1
        obtain ⟨t0, t1⟩ := LF.2.2
        clear LF HO HE HB7 HPR HBL
        go_wp2
        exact bodyPost_ret (v := .tuple #[.agg #[.slice a l q, .int .i64 zE], .int .i64 (n : Nat), .bool true]) (by simp [results, Try.results21, go_sem, t0, t1]) rfl ⟨_, by rw [HV.out, HV3.out], by rw [HV2.out]; exact HOO.out, HB.out⟩
  · intro i hi σ c wr' hb hd
    simp only [List.mem_cons, List.not_mem_nil, or_false] at hi; rcases hi with rfl | rfl | rfl | rfl | rfl | rfl | rfl | rfl
    · skip
      clear hd
      refine StepF.of (a1 := ⟨#[.agg #[.slice a0 D.f0.length p0, .int .i64 z], .int .i64 (m : Nat), .pointer (some ⟨w.heap.size, 0, none⟩), undef, .pointer (some ⟨w.heap.size + 1, 0, none⟩), .int .i64 0, .bool false, σ 7, undef, undef, undef, .agg #[.slice a0 D.f0.length p0, .int .i64 z], .bool true, .bool false, .bool false, .int .i64 (m : Nat), .bool true, .bool false, .bool false, undef, σ 0, σ 1, σ 2, σ 3, σ 4, σ 5, σ 6, undef, undef, undef, undef, undef, undef, undef, undef, undef, undef, undef, undef, undef, undef, undef, undef, undef, undef, undef, undef], []⟩) rfl rfl (fun _ => rfl) (fun K hK => ?_)
      go_simp
      exact hK _ _ ((Below.refl _ _).alloc (Nat.le_refl _) _) ⟨_, rfl⟩
    · skip
      clear hd
      refine StepF.of (a1 := ⟨#[.agg #[.slice a0 D.f0.length p0, .int .i64 z], .int .i64 (m : Nat), .pointer (some ⟨w.heap.size, 0, none⟩), undef, .pointer (some ⟨w.heap.size + 1, 0, none⟩), .int .i64 0, .bool false, σ 7, undef, undef, undef, .agg #[.slice a0 D.f0.length p0, .int .i64 z], .bool true, .bool false, .bool false, .int .i64 (m : Nat), .bool true, .bool false, .bool false, undef, σ 0, σ 1, σ 2, σ 3, σ 4, σ 5, σ 6, undef, undef, undef, undef, undef, undef, undef, undef, undef, undef, undef, undef, undef, undef, undef, undef, undef, undef, undef, undef], []⟩) rfl rfl (fun _ => rfl) (fun K hK => ?_)
      go_simp
      exact hK _ _ (Below.refl _ _) rfl
    · skip
      have f1 : rosF _ _ _ _ 1 σ c wr' := hd 1 (by decide) (by decide)
      simp only [rosF] at f1
      clear hd
      refine StepF.of (a1 := ⟨#[.agg #[.slice a0 D.f0.length p0, .int .i64 z], .int .i64 (m : Nat), .pointer (some ⟨w.heap.size, 0, none⟩), undef, .pointer (some ⟨w.heap.size + 1, 0, none⟩), .int .i64 0, .bool false, σ 7, undef, undef, undef, .agg #[.slice a0 D.f0.length p0, .int .i64 z], .bool true, .bool false, .bool false, .int .i64 (m : Nat), .bool true, .bool false, .bool false, undef, σ 0, (.pointer (some ⟨w.heap.size, 0, none⟩)), σ 2, σ 3, σ 4, σ 5, σ 6, undef, undef, undef, undef, undef, undef, undef, undef, undef, undef, undef, undef, undef, undef, undef, undef, undef, undef, undef, undef], []⟩) (by simp only [f1]) rfl (fun _ => rfl) (fun K hK => ?_)
      obtain ⟨c0, c1⟩ := (PA.out.below hb PA.out.lt).two
      go_simp
      exact hK _ _ (Below.refl _ _) rfl
    · skip
      have f0 : rosF _ _ _ _ 0 σ c wr' := hd 0 (by decide) (by decide)
      obtain ⟨bb, f0⟩ := f0
      have f2 : rosF _ _ _ _ 2 σ c wr' := hd 2 (by decide) (by decide)
      simp only [rosF] at f2
      clear hd
      refine StepF.of (a1 := ⟨#[.agg #[.slice a0 D.f0.length p0, .int .i64 z], .int .i64 (m : Nat), .pointer (some ⟨w.heap.size, 0, none⟩), undef, .pointer (some ⟨w.heap.size + 1, 0, none⟩), .int .i64 0, .bool false, σ 7, undef, undef, undef, .agg #[.slice a0 D.f0.length p0, .int .i64 z], .bool true, .bool false, .bool false, .int .i64 (m : Nat), .bool true, .bool false, .bool false, undef, (.slice (some ⟨bb, 0, none⟩) 0 0), σ 1, (.slice a0 D.f0.length p0), σ 3, σ 4, σ 5, σ 6, undef, undef, undef, undef, undef, undef, undef, undef, undef, undef, undef, undef, undef, undef, undef, undef, undef, undef, undef, undef], []⟩) (by simp only [f0, f2]) rfl (fun _ => rfl) (fun K hK => ?_)
      refine step_clone_lit (by rfl) _ _ (by rfl) bb (by rfl) _ D.f0 (by rfl) (HR1.out.below hb) (by omega) ?_
      intro u2 w2 k2 _ b
      exact hK u2 w2 b ⟨k2, k2.sform⟩
    · skip
      clear hd
      refine StepF.of (a1 := ⟨#[.agg #[.slice a0 D.f0.length p0, .int .i64 z], .int .i64 (m : Nat), .pointer (some ⟨w.heap.size, 0, none⟩), undef, .pointer (some ⟨w.heap.size + 1, 0, none⟩), .int .i64 0, .bool false, σ 7, undef, undef, undef, .agg #[.slice a0 D.f0.length p0, .int .i64 z], .bool true, .bool false, .bool false, .int .i64 (m : Nat), .bool true, .bool false, .bool false, undef, σ 0, σ 1, σ 2, σ 3, σ 4, σ 5, σ 6, undef, undef, undef, undef, undef, undef, undef, undef, undef, undef, undef, undef, undef, undef, undef, undef, undef, undef, undef, undef], []⟩) rfl rfl (fun _ => rfl) (fun K hK => ?_)
      go_simp
      exact hK _ _ (Below.refl _ _) rfl
    · skip
      have f4 : rosF _ _ _ _ 4 σ c wr' := hd 4 (by decide) (by decide)
      simp only [rosF] at f4
      clear hd
      refine StepF.of (a1 := ⟨#[.agg #[.slice a0 D.f0.length p0, .int .i64 z], .int .i64 (m : Nat), .pointer (some ⟨w.heap.size, 0, none⟩), undef, .pointer (some ⟨w.heap.size + 1, 0, none⟩), .int .i64 0, .bool false, σ 7, undef, undef, undef, .agg #[.slice a0 D.f0.length p0, .int .i64 z], .bool true, .bool false, .bool false, .int .i64 (m : Nat), .bool true, .bool false, .bool false, undef, σ 0, σ 1, σ 2, σ 3, (.pointer (some ⟨w.heap.size, 1, none⟩)), σ 5, σ 6, undef, undef, undef, undef, undef, undef, undef, undef, undef, undef, undef, undef, undef, undef, undef, undef, undef, undef, undef, undef], []⟩) (by simp only [f4]) rfl (fun _ => rfl) (fun K hK => ?_)
      obtain ⟨c0, c1⟩ := (PA.out.below hb PA.out.lt).two
      go_simp
      exact hK _ _ (Below.refl _ _) rfl
    · skip
      have f3 : rosF _ _ _ _ 3 σ c wr' := hd 3 (by decide) (by decide)
      obtain ⟨_, a3, m3, q3, f3⟩ := f3
      have f5 : rosF _ _ _ _ 5 σ c wr' := hd 5 (by decide) (by decide)
      simp only [rosF] at f5
      clear hd
      refine StepF.of (a1 := ⟨#[.agg #[.slice a0 D.f0.length p0, .int .i64 z], .int .i64 (m : Nat), .pointer (some ⟨w.heap.size, 0, none⟩), undef, .pointer (some ⟨w.heap.size + 1, 0, none⟩), .int .i64 0, .bool false, σ 7, undef, undef, undef, .agg #[.slice a0 D.f0.length p0, .int .i64 z], .bool true, .bool false, .bool false, .int .i64 (m : Nat), .bool true, .bool false, .bool false, undef, σ 0, σ 1, σ 2, (.slice a3 m3 q3), σ 4, (.int .i64 z), σ 6, undef, undef, undef, undef, undef, undef, undef, undef, undef, undef, undef, undef, undef, undef, undef, undef, undef, undef, undef, undef], []⟩) (by simp only [f3, f5]) rfl (fun _ => rfl) (fun K hK => ?_)
      go_simp
      exact hK _ _ (Below.refl _ _) (by show _ = Value.agg #[σ 3, σ 5]; rw [f3, f5]; rfl)
    · skip
      clear hd
      refine StepF.of (a1 := ⟨#[.agg #[.slice a0 D.f0.length p0, .int .i64 z], .int .i64 (m : Nat), .pointer (some ⟨w.heap.size, 0, none⟩), undef, .pointer (some ⟨w.heap.size + 1, 0, none⟩), .int .i64 0, .bool false, σ 7, undef, undef, undef, .agg #[.slice a0 D.f0.length p0, .int .i64 z], .bool true, .bool false, .bool false, .int .i64 (m : Nat), .bool true, .bool false, .bool false, undef, σ 0, σ 1, σ 2, σ 3, σ 4, σ 5, σ 6, undef, undef, undef, undef, undef, undef, undef, undef, undef, undef, undef, undef, undef, undef, undef, undef, undef, undef, undef, undef], []⟩) rfl rfl (fun _ => rfl) (fun K hK => ?_)
      go_simp
      exact hK _ _ ((Below.refl _ _).alloc (Nat.le_refl _) _) ⟨rfl, boxL_new wr' [.slice none 0 0, .int .i64 0] 25, by simp [upd]⟩
end Go.Proofs.Ytepnhbicmlfnhad
