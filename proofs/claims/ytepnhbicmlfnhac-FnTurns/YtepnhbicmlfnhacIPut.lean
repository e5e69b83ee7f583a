/-
  impl.PutPacket where the packet is put: turns of their own with one packet more. Nothing old is written.
-/
import Derived.Test.YtepnhbicmlfnhacTurnPut
import Derived.Test.YtepnhbicmlfnhacRegFacts2
import Derived.Test.YtepnhbicmlfnhacILikeT
import Derived.Test.YtepnhbicmlfnhacIGoodT
import Derived.Test.YtepnhbicmlfnhacTurnFns
import Derived.Test.YtepnhbicmlfnhacInfoII
namespace Go.Proofs.Ytepnhbicmlfnhac
open Go.RowKit

/-- What the operations make. -/
def iputF (X B kk lo : Nat) (vq u : Value) (x : Int) (r0 : Nat × Nat) (ys : List Int) : Nat → (Nat → Value) → (Nat → Nat × Nat) → World → Prop
  | 0, σ, _, _ => σ 0 = .pointer (some ⟨X, 1, none⟩)
  | 1, σ, _, _ => σ 1 = vq
  | 2, σ, _, _ => σ 2 = .int .i64 (kk : Nat)
  | 3, σ, _, _ => σ 3 = .pointer (some ⟨X, 1, none⟩)
  | 4, σ, _, _ => σ 4 = vq
  | 5, σ, _, _ => σ 5 = .int .i64 (kk : Nat)
  | 6, σ, _, _ => σ 6 = .pointer (some ⟨B, kk, none⟩)
  | 7, σ, _, _ => σ 7 = u
  | 8, σ, _, _ => σ 8 = .int .i64 x
  | 9, σ, _, w => ∃ b, σ 9 = .slice (some ⟨b, 0, none⟩) 1 1 ∧ w.cell? ⟨b, 0, none⟩ = some (.int .i64 x) ∧ lo ≤ b
  | 10, σ, _, w => ∃ r : Nat × Nat, KOwn r.1 r.2 w (σ 10) ys ∧ (r = r0 ∨ lo ≤ r.1 ∧ r.2 = r.1 + 1 ∧ r.2 ≤ w.heap.size) ∧ ∃ a n k, σ 10 = .slice a n k
  | _, _, _, _ => True
theorem iputF_keep {X B kk lo : Nat} {vq u : Value} {x : Int} {r0 : Nat × Nat} {ys : List Int} : ∀ j ∈ [0, 1, 2, 3, 4, 5, 6, 7, 8, 9, 10], ∀ σ c w w', iputF X B kk lo vq u x r0 ys j σ c w → Below w.heap.size w w' → iputF X B kk lo vq u x r0 ys j σ c w' := by
  intro j hj σ c w w' h hb
  simp only [List.mem_cons, List.not_mem_nil, or_false] at hj; rcases hj with rfl | rfl | rfl | rfl | rfl | rfl | rfl | rfl | rfl | rfl | rfl
  · exact h
  · exact h
  · exact h
  · exact h
  · exact h
  · exact h
  · exact h
  · exact h
  · exact h
  · exact (by obtain ⟨b, h1, h2, h3⟩ := h; exact ⟨b, h1, (World.cell?_of_block (a := ⟨b, 0, none⟩) (hb.block b (lt_of_cell h2))).trans h2, h3⟩)
  · exact (by obtain ⟨r, h1, h2, h3⟩ := h; exact ⟨r, h1.below hb, h2.imp id (fun h => ⟨h.1, h.2.1, Nat.le_trans h.2.2 hb.size⟩), h3⟩)
theorem iputF_loc {X B kk lo : Nat} {vq u : Value} {x : Int} {r0 : Nat × Nat} {ys : List Int} {j i : Nat} {σ : Nat → Value} {c : Nat → Nat × Nat} {w : World} {v : Value} {r : Nat × Nat} (hj : j ∈ [0, 1, 2, 3, 4, 5, 6, 7, 8, 9, 10]) (hne : i ≠ j) (_hd : True) (h : iputF X B kk lo vq u x r0 ys j σ c w) : iputF X B kk lo vq u x r0 ys j (upd σ i v) (upd c i r) w := by
  simp only [List.mem_cons, List.not_mem_nil, or_false] at hj; rcases hj with rfl | rfl | rfl | rfl | rfl | rfl | rfl | rfl | rfl | rfl | rfl
  · simp only [iputF, upd_other _ _ (Ne.symm hne)] at h ⊢
    exact h
  · simp only [iputF, upd_other _ _ (Ne.symm hne)] at h ⊢
    exact h
  · simp only [iputF, upd_other _ _ (Ne.symm hne)] at h ⊢
    exact h
  · simp only [iputF, upd_other _ _ (Ne.symm hne)] at h ⊢
    exact h
  · simp only [iputF, upd_other _ _ (Ne.symm hne)] at h ⊢
    exact h
  · simp only [iputF, upd_other _ _ (Ne.symm hne)] at h ⊢
    exact h
  · simp only [iputF, upd_other _ _ (Ne.symm hne)] at h ⊢
    exact h
  · simp only [iputF, upd_other _ _ (Ne.symm hne)] at h ⊢
    exact h
  · simp only [iputF, upd_other _ _ (Ne.symm hne)] at h ⊢
    exact h
  · simp only [iputF, upd_other _ _ (Ne.symm hne)] at h ⊢
    exact h
  · simp only [iputF, upd_other _ _ (Ne.symm hne)] at h ⊢
    exact h
theorem iputF_keep2 {X B kk lo g : Nat} {vq u : Value} {x : Int} {r0 : Nat × Nat} {ys : List Int} (hg : g < lo) : ∀ j ∈ [0, 1, 2, 3, 4, 5, 6, 7, 8, 9, 10], j ≠ 10 → ∀ σ c w w', iputF X B kk lo vq u x r0 ys j σ c w → w.grownBy w' (some g) → iputF X B kk lo vq u x r0 ys j σ c w' := by
  intro j hj hne σ c w w' h hb
  simp only [List.mem_cons, List.not_mem_nil, or_false] at hj; rcases hj with rfl | rfl | rfl | rfl | rfl | rfl | rfl | rfl | rfl | rfl | rfl
  · exact h
  · exact h
  · exact h
  · exact h
  · exact h
  · exact h
  · exact h
  · exact h
  · exact h
  · obtain ⟨b, h1, h2, h3⟩ := h
    exact ⟨b, h1, (World.cell?_of_block (a := ⟨b, 0, none⟩) (hb.block b (lt_of_cell h2) (by simp; omega))).trans h2, h3⟩
  · exact absurd rfl hne
set_option maxRecDepth 100000 in
set_option maxHeartbeats 16000000 in
theorem iput_yes (v : Value) (D : TuD) (q x : Int) (w : World) (hr : TuReads w v D) (h : putOk D q x = true) :
    Calls Try.prog 43 #[v, .int .i64 q, .int .i64 x] w fun e w' => ∃ u0, e = .returned (.tuple #[u0, .bool true]) ∧ TuOwn (Iv w.heap.size w'.heap.size) w' u0 (putD D q.toNat x) ∧ Below w.heap.size w w' := by
  unfold putOk at h
  simp only [Bool.and_eq_true, decide_eq_true_eq, Bool.not_eq_true', decide_eq_false_iff_not] at h
  obtain ⟨hgd, hq, hx, h30⟩ := h
  have HG := hid (goodT_of hgd)
  have HT := hid hgd
  obtain ⟨k, hk⟩ : ∃ k : Nat, q = (k : Int) := ⟨q.toNat, by omega⟩
  subst hk
  rw [Int.toNat_natCast] at h30 ⊢
  have hkl : k < D.f1.length := by omega
  have HR := hid hr
  obtain ⟨v0, v1, v2, v3, rfl, r0, r1, r2, r3⟩ := hr
  obtain ⟨a0, p0, rfl, _, _⟩ := r0
  obtain ⟨a2, p2, rfl, _, _⟩ := r2
  obtain ⟨a3, p3, rfl, _, _⟩ := r3
  obtain ⟨g1, o1, p1, e1, h1⟩ := r1.cells k hkl
  subst e1
  obtain ⟨u, cu, hu⟩ := h1 k hkl
  have CU0 := hid cu
  obtain ⟨au, ku, rfl, _, _⟩ := hu
  obtain ⟨nu, hnu⟩ : ∃ n, n = (D.f1.getD k []).length := ⟨_, rfl⟩
  rw [← hnu] at CU0 h30
  have hl30 : (D.f1.getD k []).length ≤ 30 := (HG.out.k k hkl).1
  obtain ⟨z, hz⟩ : ∃ z, z = D.f4 := ⟨_, rfl⟩
  have HZ := hid hz
  rw [← hz] at HR ⊢
  have h30' : ¬ ((nu : Int) = 30) := by omega
  have n0 : (0 : Int) ≤ (k : Int) := by omega
  have n1 : (k : Int) < (D.f1.length : Int) := by omega
  have d1 : decide ((k : Int) < 0) = false := by rw [decide_eq_false_iff_not]; omega
  have d2 : decide ((D.f1.length : Int) ≤ (k : Int)) = false := by rw [decide_eq_false_iff_not]; omega
  have d3 : decide (D.f1.length ≤ k) = false := by rw [decide_eq_false_iff_not]; omega
  have d4 : ((nu : Int) == 30) = false := by rw [beq_eq_false_iff_ne]; exact h30'
  clear cu h1 r1 hnu hz h30 hgd hq
  have PA := hid (boxL_new w [.slice a0 D.f0.length p0, .slice (some ⟨g1, o1, none⟩) D.f1.length p1, .slice a2 D.f2.length p2, .slice a3 D.f3.length p3, .int .i64 z] 55)
  have PR := hid (boxL_new (w.alloc (.cells #[.slice a0 D.f0.length p0, .slice (some ⟨g1, o1, none⟩) D.f1.length p1, .slice a2 D.f2.length p2, .slice a3 D.f3.length p3, .int .i64 z] 55)) [.slice none 0 0, .slice none 0 0, .slice none 0 0, .slice none 0 0, .int .i64 0] 55)
  replace PA := hid (PA.out.below ((Below.refl _ _).alloc (Nat.le_refl _) (.cells #[.slice none 0 0, .slice none 0 0, .slice none 0 0, .slice none 0 0, .int .i64 0] 55)) PA.out.lt)
  rw [World.size_alloc] at PR
  have B0 : Hid (Below w.heap.size w ((w.alloc (.cells #[.slice a0 D.f0.length p0, .slice (some ⟨g1, o1, none⟩) D.f1.length p1, .slice a2 D.f2.length p2, .slice a3 D.f3.length p3, .int .i64 z] 55)).alloc (.cells #[.slice none 0 0, .slice none 0 0, .slice none 0 0, .slice none 0 0, .int .i64 0] 55))) := ((Below.refl _ _).alloc (Nat.le_refl _) _).alloc (by simp) _
  obtain ⟨q0, q1, q2, q3, q4⟩ := PA.out.five
  go_enter Try.func43, Try.ntmps43
  go_wp2_with fail
  refine (igoodT_eq _ D true HT.out _ (HR.out.below B0.out)).mono ?_
  rintro e w1 ⟨rfl, b1⟩
  have hs0 : ((w.alloc (.cells #[.slice a0 D.f0.length p0, .slice (some ⟨g1, o1, none⟩) D.f1.length p1, .slice a2 D.f2.length p2, .slice a3 D.f3.length p3, .int .i64 z] 55)).alloc (.cells #[.slice none 0 0, .slice none 0 0, .slice none 0 0, .slice none 0 0, .int .i64 0] 55)).heap.size = w.heap.size + 2 := by rw [World.size_alloc, World.size_alloc]
  have hs1 := b1.size
  rw [hs0] at hs1
  have B1 : Hid (Below w.heap.size w w1) := B0.out.trans (b1.mono B0.out.size)
  have PA1 := hid (PA.out.below b1 PA.out.lt)
  have PR1 := hid (PR.out.below b1 PR.out.lt)
  have CU1 := (World.cell?_of_block (a := ⟨g1, o1 + k, none⟩) (B1.out.block g1 (lt_of_cell CU0.out))).trans CU0.out
  clear b1 q0 q1 q2 q3 q4 PA PR B0 hs0
  obtain ⟨q0, q1, q2, q3, q4⟩ := PA1.out.five
  go_wp2_with fail
  refine (pkwrong_eq x true (by show decide (1 ≤ x ∧ x ≤ 20) = true; rw [decide_eq_true_eq]; exact hx) _).mono ?_
  rintro e w' ⟨rfl, hw⟩; obtain rfl := hw.symm
  go_wp2_with fail
  refine (ilike_any _ D _ (HR.out.below B1.out) HG.out).mono ?_
  rintro e w3 ⟨u0, rfl, ht, b3⟩
  obtain ⟨s0, s1, s2, s3, c0, c1, c2, c3, iv, rfl, hA, k0, k1, k2, k3, kq⟩ := ht
  obtain ⟨b0, m0, j0, rfl⟩ := k0.sform
  obtain ⟨b2, m2, j2, rfl⟩ := k2.sform
  obtain ⟨b3', m3, j3, rfl⟩ := k3.sform
  obtain ⟨B, cap, rfl⟩ : ∃ B cap, s1 = .slice (some ⟨B, 0, none⟩) D.f1.length cap := by
    obtain ⟨_, h⟩ := k1
    rcases h with ⟨a', cap', e, e2⟩ | ⟨B', cap', us, e, _⟩
    · rw [e2] at hkl; simp at hkl
    · exact ⟨B', cap', e⟩
  obtain ⟨uu, cuu, fuu, hB, kuu⟩ := k1.cell rfl k hkl
  have kap := kq B _ _ rfl k hkl uu cuu
  have B3 : Hid (Below w.heap.size w w3) := B1.out.trans (b3.mono B1.out.size)
  have hs3 := b3.size
  have PR3 := hid (PR1.out.below b3 PR1.out.lt)
  rw [← HZ.out]
  clear q0 q1 q2 q3 q4 CU1 b3
  go_wp2_with fail
  have PX := hid (boxL_new w3 [.slice b0 m0 j0, .slice (some ⟨B, 0, none⟩) D.f1.length cap, .slice b2 m2 j2, .slice b3' m3 j3, .int .i64 z] 55)
  have BX : Hid (Below w3.heap.size w3 (w3.alloc (.cells #[.slice b0 m0 j0, .slice (some ⟨B, 0, none⟩) D.f1.length cap, .slice b2 m2 j2, .slice b3' m3 j3, .int .i64 z] 55))) := (Below.refl _ _).alloc (Nat.le_refl _) _
  have hsX : (w3.alloc (.cells #[.slice b0 m0 j0, .slice (some ⟨B, 0, none⟩) D.f1.length cap, .slice b2 m2 j2, .slice b3' m3 j3, .int .i64 z] 55)).heap.size = w3.heap.size + 1 := World.size_alloc _ _
  obtain ⟨g, hg1, hg2, hgB, hgS, hcase⟩ := put_g (P := w.heap.size) hA hkl hB kap (by omega) hs3
  refine wp_region_any (by kernel_rfl) ?_
  change wpAny _ _ _ _ _ _ _ (World.drew _)
  obtain ⟨X, hX⟩ : ∃ X, X = w3.heap.size := ⟨_, rfl⟩
  obtain ⟨W4, hW4⟩ : ∃ W4, W4 = World.drew (w3.alloc (.cells #[.slice b0 m0 j0, .slice (some ⟨B, 0, none⟩) D.f1.length cap, .slice b2 m2 j2, .slice b3' m3 j3, .int .i64 z] 55)) := ⟨_, rfl⟩
  have HX : Hid (BoxL W4 X [.slice b0 m0 j0, .slice (some ⟨B, 0, none⟩) D.f1.length cap, .slice b2 m2 j2, .slice b3' m3 j3, .int .i64 z]) := by rw [hW4, hX]; exact PX.out
  have BW : Hid (Below w3.heap.size w3 W4) := by rw [hW4]; exact BX.out.drew
  have hWs : W4.heap.size = X + 1 := by rw [hW4, hX]; exact hsX
  rw [← hW4, ← hX]
  rw [← hX] at hg2 hs3
  have HX3 := hid hX
  clear hW4 hX PX BX hsX
  have CU : Hid (W4.cell? ⟨B, k, none⟩ = some uu) := (World.cell?_of_block (a := ⟨B, k, none⟩) (BW.out.block B (lt_of_cell cuu))).trans cuu
  have FU : Hid (W4.frozen? ⟨B, k, none⟩ = false) := (World.frozen?_of_block (a := ⟨B, k, none⟩) (BW.out.block B (lt_of_cell cuu))).trans fuu
  have hgX : g ≠ X := by omega
  obtain ⟨au', nu', ku', eu⟩ := kuu.sform
  have PR4 := hid (PR3.out.below BW.out PR3.out.lt)
  have BL3 := (hA.inn 1 (by omega)).2 B hB.1 hB.2
  unfold Iv at BL3
  rw [← HX3.out] at BL3
  clear cuu fuu kap kq
  refine wpAny_facts2' 2 (Array.replicate 13 false) #[true, true, true, true, true, true, true, true, true, true, true, false, false] [0, 1, 2, 3, 4, 5, 6, 7, 8, 9, 10] 10 g (fun σ : Nat → Value => #[.agg #[.slice a0 D.f0.length p0, .slice (some ⟨g1, o1, none⟩) D.f1.length p1, .slice a2 D.f2.length p2, .slice a3 D.f3.length p3, .int .i64 z], .int .i64 (k : Nat), .int .i64 x, .pointer (some ⟨w.heap.size, 0, none⟩), undef, undef, .pointer (some ⟨w.heap.size + 1, 0, none⟩), .bool false, .pointer (some ⟨X, 0, none⟩), .agg #[.slice a0 D.f0.length p0, .slice (some ⟨g1, o1, none⟩) D.f1.length p1, .slice a2 D.f2.length p2, .slice a3 D.f3.length p3, .int .i64 z], .bool true, .bool false, .bool false, .int .i64 (k : Nat), .bool false, .bool false, .bool false, .int .i64 (k : Nat), .pointer (some ⟨w.heap.size, 1, none⟩), .slice (some ⟨g1, o1, none⟩) D.f1.length p1, .int .i64 (D.f1.length : Nat), .bool false, .bool false, .bool false, .int .i64 x, .bool false, .bool false, .bool false, .pointer (some ⟨w.heap.size, 1, none⟩), .slice (some ⟨g1, o1, none⟩) D.f1.length p1, .int .i64 (k : Nat), .pointer (some ⟨g1, o1 + k, none⟩), .slice au nu ku, .int .i64 (nu : Nat), .bool false, .bool false, undef, .agg #[.slice a0 D.f0.length p0, .slice (some ⟨g1, o1, none⟩) D.f1.length p1, .slice a2 D.f2.length p2, .slice a3 D.f3.length p3, .int .i64 z], .agg #[.slice b0 m0 j0, .slice (some ⟨B, 0, none⟩) D.f1.length cap, .slice b2 m2 j2, .slice b3' m3 j3, .int .i64 z], σ 0, σ 1, σ 2, σ 3, σ 4, σ 5, σ 6, σ 7, σ 8, σ 9, σ 10, undef, undef]) (iputF X B k (X + 1) (.slice (some ⟨B, 0, none⟩) D.f1.length cap) uu x (iv k) (D.f1.getD k [] ++ [x])) (fun _ => undef) rfl (by kernel_rfl) (by kernel_rfl) (by kernel_rfl) (by kernel_rfl) (by decide) rfl iputF_keep (iputF_keep2 (by omega)) (fun j hj i hi σ c w v r hne hd h => iputF_loc hj hne trivial h) ?_ ?_ ?_
  · intro σ c wr hb hf hin hdj
    obtain ⟨r, k10, hr10, a10, m10, q10, e10⟩ : iputF _ _ _ _ _ _ _ _ _ 10 σ c wr := hf 10 (by decide)
    have e1 : iputF _ _ _ _ _ _ _ _ _ 1 σ c wr := hf 1 (by decide)
    have e2 : iputF _ _ _ _ _ _ _ _ _ 2 σ c wr := hf 2 (by decide)
    simp only [iputF] at e1 e2
    rw [e10] at k10
    clear hf hin hdj
    try dsimp only
    rw [e1, e2, e10]
    have hsz := hb.size
    have cB := (World.cell?_of_block (a := ⟨B, k, none⟩) (grown_at2 hb B (lt_of_cell CU.out) hgB)).trans CU.out
    have fB := (World.frozen?_of_block (a := ⟨B, k, none⟩) (grown_at2 hb B (lt_of_cell CU.out) hgB)).trans FU.out
    have hT := tu_put (S' := fun g' => w1.heap.size ≤ g' ∧ g' < wr.heap.size) (w := w3) (w' := wr) HZ.out hA k0 k1 k2 k3 hkl (hr10.imp id (fun h => ⟨by omega, fun g' y1 y2 => ⟨by omega, by omega⟩, fun j hj => by
      have hjn := hA.inn j hj
      by_cases he : (tuIv c0 c1 c2 c3 iv j).1 < (tuIv c0 c1 c2 c3 iv j).2
      · have h9 := hjn.2 ((tuIv c0 c1 c2 c3 iv j).2 - 1) (by omega) (by omega)
        unfold Iv at h9
        rw [← HX3.out] at h9
        unfold Dj
        omega
      · unfold Dj; omega⟩)) (fun g' hS => by unfold Iv at hS; rw [← HX3.out] at hS; exact ⟨by omega, by omega⟩) k10 (fun j g' hj hne y1 y2 y3 => by
      rw [grown_at2 hb g' (by rw [← HX3.out] at y3; omega) (fun e => hgS j hj hne (by rw [e]; exact ⟨y1, y2⟩)), BW.out.block g' y3])
    have HT4 := hid hT
    have HXr := hid ((HX.out.of_block (grown_at2 hb X HX.out.lt hgX)).of_block (Below.heap_setCell wr ⟨B, k, none⟩ (.slice a10 m10 q10) X (by show X ≠ B; omega)))
    have HRr := hid ((PR4.out.of_block (grown_at2 hb _ PR4.out.lt (by omega))).of_block (Below.heap_setCell wr ⟨B, k, none⟩ (.slice a10 m10 q10) (w.heap.size + 1) (by show w.heap.size + 1 ≠ B; omega)))
    have HBr : Hid (Below w.heap.size w (wr.setCell ⟨B, k, none⟩ (.slice a10 m10 q10))) := ((B3.out.trans (BW.out.mono B3.out.size)).trans ((Below.refl w.heap.size W4).grown hb (by have := BW.out.size; omega) (fun m e => by cases e; omega))).trans ((onlyP_set wr B k (.slice a10 m10 q10)).below (lo := w.heap.size) (fun j e => by omega))
    clear hT k10 hr10 hb HX PR4 BW CU FU hA k0 k1 k2 k3 e1 e2 e10 B3 hcase hgS
    refine wpAny_ready (rs := [11]) (by kernel_rfl) (by simp) ?_
    refine AllReady.cons rfl (fun K hK => ?_) AllReady.nil
    go_simp
    refine hK _ _ ?_
    clear hK K
    refine wpAny_ready (rs := [12]) (by kernel_rfl) (by simp) ?_
    refine AllReady.cons rfl (fun K hK => ?_) AllReady.nil
    go_simp
    refine hK _ _ ?_
    clear hK K
    refine wpAny_done (by kernel_rfl) ?_ _
    obtain ⟨W5, hW5⟩ : ∃ W5, W5 = wr.setCell ⟨B, k, none⟩ (.slice a10 m10 q10) := ⟨_, rfl⟩
    have hs5 : W5.heap.size = wr.heap.size := by rw [hW5]; exact World.size_setCell _ _ _
    rw [← hW5] at HT4 HXr HRr HBr ⊢
    clear hW5 cB fB
    obtain ⟨y0, y1, y2, y3, y4⟩ := HXr.out.five
    obtain ⟨t0, t1, t2, t3, t4⟩ := HRr.out.five
    have x0 := (HRr.out.cell 0 (by simp)).2
    have x1 := (HRr.out.cell 1 (by simp)).2
    have x2 := (HRr.out.cell 2 (by simp)).2
    have x3 := (HRr.out.cell 3 (by simp)).2
    have x4 := (HRr.out.cell 4 (by simp)).2
    have op := put5_only W5 (w.heap.size + 1) (.slice b0 m0 j0) (.slice (some ⟨B, 0, none⟩) D.f1.length cap) (.slice b2 m2 j2) (.slice b3' m3 j3) (.int .i64 z)
    have bx := put5_box HRr.out (.slice b0 m0 j0) (.slice (some ⟨B, 0, none⟩) D.f1.length cap) (.slice b2 m2 j2) (.slice b3' m3 j3) (.int .i64 z)
    have hs6 := op.1
    have HT5 := hid ((HT4.out.at (w' := put5 W5 (w.heap.size + 1) (.slice b0 m0 j0) (.slice (some ⟨B, 0, none⟩) D.f1.length cap) (.slice b2 m2 j2) (.slice b3' m3 j3) (.int .i64 z)) (fun g' y1 y2 => op.2.1 g' (by have := y1.1; omega))).mono (S' := Iv w.heap.size (put5 W5 (w.heap.size + 1) (.slice b0 m0 j0) (.slice (some ⟨B, 0, none⟩) D.f1.length cap) (.slice b2 m2 j2) (.slice b3' m3 j3) (.int .i64 z)).heap.size) (fun g' y => by unfold Iv; rw [hs6]; have := y.1; have := y.2; omega))
    have HB5 := hid (HBr.out.trans (op.below (lo := w.heap.size) fun j e => by omega))
    obtain ⟨z0, z1, z2, z3, z4⟩ := bx.five
    clear op bx hs6 HT4 HXr HRr HBr
    go_wp2
    exact bodyPost_ret (v := .tuple #[.agg #[.slice b0 m0 j0, .slice (some ⟨B, 0, none⟩) D.f1.length cap, .slice b2 m2 j2, .slice b3' m3 j3, .int .i64 z], .bool true]) (by simp [results, Try.results43, go_sem, z0, z1, z2, z3, z4]) rfl ⟨_, rfl, HT5.out, HB5.out⟩
  · intro σ c wr hb hd
    have f7 : iputF _ _ _ _ _ _ _ _ _ 7 σ c wr := hd 7 (by decide) (by decide)
    simp only [iputF] at f7
    have f9 : iputF _ _ _ _ _ _ _ _ _ 9 σ c wr := hd 9 (by decide) (by decide)
    obtain ⟨bb, f9, c9, hlo⟩ := f9
    have hsz := hb.size
    have hb3 := BW.out.trans (hb.mono BW.out.size)
    clear hd
    refine StepG.of (a1 := ⟨#[.agg #[.slice a0 D.f0.length p0, .slice (some ⟨g1, o1, none⟩) D.f1.length p1, .slice a2 D.f2.length p2, .slice a3 D.f3.length p3, .int .i64 z], .int .i64 (k : Nat), .int .i64 x, .pointer (some ⟨w.heap.size, 0, none⟩), undef, undef, .pointer (some ⟨w.heap.size + 1, 0, none⟩), .bool false, .pointer (some ⟨X, 0, none⟩), .agg #[.slice a0 D.f0.length p0, .slice (some ⟨g1, o1, none⟩) D.f1.length p1, .slice a2 D.f2.length p2, .slice a3 D.f3.length p3, .int .i64 z], .bool true, .bool false, .bool false, .int .i64 (k : Nat), .bool false, .bool false, .bool false, .int .i64 (k : Nat), .pointer (some ⟨w.heap.size, 1, none⟩), .slice (some ⟨g1, o1, none⟩) D.f1.length p1, .int .i64 (D.f1.length : Nat), .bool false, .bool false, .bool false, .int .i64 x, .bool false, .bool false, .bool false, .pointer (some ⟨w.heap.size, 1, none⟩), .slice (some ⟨g1, o1, none⟩) D.f1.length p1, .int .i64 (k : Nat), .pointer (some ⟨g1, o1 + k, none⟩), .slice au nu ku, .int .i64 (nu : Nat), .bool false, .bool false, undef, .agg #[.slice a0 D.f0.length p0, .slice (some ⟨g1, o1, none⟩) D.f1.length p1, .slice a2 D.f2.length p2, .slice a3 D.f3.length p3, .int .i64 z], .agg #[.slice b0 m0 j0, .slice (some ⟨B, 0, none⟩) D.f1.length cap, .slice b2 m2 j2, .slice b3' m3 j3, .int .i64 z], σ 0, σ 1, σ 2, σ 3, σ 4, σ 5, σ 6, uu, σ 8, (.slice (some ⟨bb, 0, none⟩) 1 1), σ 10, undef, undef], []⟩) (by simp only [f7, f9]) rfl (fun _ => rfl) (fun K hK => ?_)
    rcases hcase with ⟨hnil, aa, haa⟩ | ⟨how, hbl, hr1, hr2⟩
    · obtain ⟨i0, hi, hz0, hz1, hz2⟩ := info_parts info_int
      refine step_append_grows (by rfl) _ _ _ (by rfl) 3 i0 (.int .i64 0) 1 8 Try.underlying23 hi hz0 hz1 hz2 (by rfl) (by decide) aa 0 0 [] (by rw [haa]; rfl) (by intro _; exact ⟨rfl, rfl⟩) (by rfl) (by intro b0 _ j u h; simp at h) ⟨bb, 0, none⟩ 1 1 (kflat [x]) (by rfl) (by rfl) (kflat_cells (fun i hi => by
        have : i = 0 := by simp at hi; omega
        subst this
        exact c9)) (kflat_one _) (by omega) (by unfold maxLen; omega) (by omega) ?_
      intro u2 w2 hown hgrow
      rw [Nat.zero_add, List.nil_append] at hown
      rcases id hown.2 with ⟨_, h0⟩ | ⟨g', cap', cur', e', hb', hh', _⟩
      · omega
      · have hk2 := KOwn.of_owns2 (lo := g') (hi := g' + 1) hown (by simp) (fun g'' e => by rw [e'] at e; simp only [Value.ownBlock, Option.some.injEq] at e; omega)
        exact hK u2 w2 ⟨hgrow.os, hgrow.tape, hgrow.output, hgrow.size, fun j hj _ => hgrow.block j hj (by simp)⟩ ⟨(g', g' + 1), by rw [hnil]; exact hk2, .inr ⟨by show X + 1 ≤ g'; omega, rfl, (Array.getElem?_eq_some_iff.1 hh').1⟩, hk2.sform⟩
    · refine step_append_reads (by rfl) _ _ (by rfl) (iv k).1 uu (D.f1.getD k []).length (D.f1.getD k []) (by rfl) (owns_at how fun g' _ hg' => hb3.block g' hg') (.slice (some ⟨bb, 0, none⟩) 1 1) [x] (by rfl) ⟨_, _, rfl, by simp, .inr ⟨bb, 0, rfl, fun i hi => by
        have : i = 0 := by simp at hi; omega
        subst this
        exact c9⟩⟩ (by rw [List.length_singleton]; omega) (by omega) ?_
      intro u2 w2 hown hgrow hv
      rw [hbl] at hgrow hv
      rcases hv with hv | hv
      · have hk2 := KOwn.of_owns2 (lo := (iv k).1) (hi := (iv k).2) hown (by rw [List.length_append, List.length_singleton]; omega) (fun g' e => by rw [hv] at e; cases e; exact ⟨hr1, hr2⟩)
        exact hK u2 w2 hgrow ⟨iv k, hk2, .inl rfl, hk2.sform⟩
      · have hlt := owns_lt hown _ hv
        have hk2 := KOwn.of_owns2 (lo := wr.heap.size) (hi := wr.heap.size + 1) hown (by rw [List.length_append, List.length_singleton]; omega) (fun g' e => by rw [hv] at e; cases e; omega)
        exact hK u2 w2 hgrow ⟨(wr.heap.size, wr.heap.size + 1), hk2, .inr ⟨by show X + 1 ≤ wr.heap.size; omega, rfl, hlt.2⟩, hk2.sform⟩
  · intro i hi hne σ c wr hb hd
    simp only [List.mem_cons, List.not_mem_nil, or_false] at hi; rcases hi with rfl | rfl | rfl | rfl | rfl | rfl | rfl | rfl | rfl | rfl | rfl
    · skip
      clear hd
      refine StepF.of (a1 := ⟨#[.agg #[.slice a0 D.f0.length p0, .slice (some ⟨g1, o1, none⟩) D.f1.length p1, .slice a2 D.f2.length p2, .slice a3 D.f3.length p3, .int .i64 z], .int .i64 (k : Nat), .int .i64 x, .pointer (some ⟨w.heap.size, 0, none⟩), undef, undef, .pointer (some ⟨w.heap.size + 1, 0, none⟩), .bool false, .pointer (some ⟨X, 0, none⟩), .agg #[.slice a0 D.f0.length p0, .slice (some ⟨g1, o1, none⟩) D.f1.length p1, .slice a2 D.f2.length p2, .slice a3 D.f3.length p3, .int .i64 z], .bool true, .bool false, .bool false, .int .i64 (k : Nat), .bool false, .bool false, .bool false, .int .i64 (k : Nat), .pointer (some ⟨w.heap.size, 1, none⟩), .slice (some ⟨g1, o1, none⟩) D.f1.length p1, .int .i64 (D.f1.length : Nat), .bool false, .bool false, .bool false, .int .i64 x, .bool false, .bool false, .bool false, .pointer (some ⟨w.heap.size, 1, none⟩), .slice (some ⟨g1, o1, none⟩) D.f1.length p1, .int .i64 (k : Nat), .pointer (some ⟨g1, o1 + k, none⟩), .slice au nu ku, .int .i64 (nu : Nat), .bool false, .bool false, undef, .agg #[.slice a0 D.f0.length p0, .slice (some ⟨g1, o1, none⟩) D.f1.length p1, .slice a2 D.f2.length p2, .slice a3 D.f3.length p3, .int .i64 z], .agg #[.slice b0 m0 j0, .slice (some ⟨B, 0, none⟩) D.f1.length cap, .slice b2 m2 j2, .slice b3' m3 j3, .int .i64 z], σ 0, σ 1, σ 2, σ 3, σ 4, σ 5, σ 6, σ 7, σ 8, σ 9, σ 10, undef, undef], []⟩) rfl rfl (fun _ => rfl) (fun K hK => ?_)
      go_simp
      exact hK _ _ (Below.refl _ _) rfl
    · skip
      have f0 : iputF _ _ _ _ _ _ _ _ _ 0 σ c wr := hd 0 (by decide) (by decide)
      simp only [iputF] at f0
      clear hd
      refine StepF.of (a1 := ⟨#[.agg #[.slice a0 D.f0.length p0, .slice (some ⟨g1, o1, none⟩) D.f1.length p1, .slice a2 D.f2.length p2, .slice a3 D.f3.length p3, .int .i64 z], .int .i64 (k : Nat), .int .i64 x, .pointer (some ⟨w.heap.size, 0, none⟩), undef, undef, .pointer (some ⟨w.heap.size + 1, 0, none⟩), .bool false, .pointer (some ⟨X, 0, none⟩), .agg #[.slice a0 D.f0.length p0, .slice (some ⟨g1, o1, none⟩) D.f1.length p1, .slice a2 D.f2.length p2, .slice a3 D.f3.length p3, .int .i64 z], .bool true, .bool false, .bool false, .int .i64 (k : Nat), .bool false, .bool false, .bool false, .int .i64 (k : Nat), .pointer (some ⟨w.heap.size, 1, none⟩), .slice (some ⟨g1, o1, none⟩) D.f1.length p1, .int .i64 (D.f1.length : Nat), .bool false, .bool false, .bool false, .int .i64 x, .bool false, .bool false, .bool false, .pointer (some ⟨w.heap.size, 1, none⟩), .slice (some ⟨g1, o1, none⟩) D.f1.length p1, .int .i64 (k : Nat), .pointer (some ⟨g1, o1 + k, none⟩), .slice au nu ku, .int .i64 (nu : Nat), .bool false, .bool false, undef, .agg #[.slice a0 D.f0.length p0, .slice (some ⟨g1, o1, none⟩) D.f1.length p1, .slice a2 D.f2.length p2, .slice a3 D.f3.length p3, .int .i64 z], .agg #[.slice b0 m0 j0, .slice (some ⟨B, 0, none⟩) D.f1.length cap, .slice b2 m2 j2, .slice b3' m3 j3, .int .i64 z], (.pointer (some ⟨X, 1, none⟩)), σ 1, σ 2, σ 3, σ 4, σ 5, σ 6, σ 7, σ 8, σ 9, σ 10, undef, undef], []⟩) (by simp only [f0]) rfl (fun _ => rfl) (fun K hK => ?_)
      obtain ⟨y0, y1, y2, y3, y4⟩ := (HX.out.of_block (grown_at2 hb X HX.out.lt hgX)).five
      go_simp
      exact hK _ _ (Below.refl _ _) rfl
    · skip
      clear hd
      refine StepF.of (a1 := ⟨#[.agg #[.slice a0 D.f0.length p0, .slice (some ⟨g1, o1, none⟩) D.f1.length p1, .slice a2 D.f2.length p2, .slice a3 D.f3.length p3, .int .i64 z], .int .i64 (k : Nat), .int .i64 x, .pointer (some ⟨w.heap.size, 0, none⟩), undef, undef, .pointer (some ⟨w.heap.size + 1, 0, none⟩), .bool false, .pointer (some ⟨X, 0, none⟩), .agg #[.slice a0 D.f0.length p0, .slice (some ⟨g1, o1, none⟩) D.f1.length p1, .slice a2 D.f2.length p2, .slice a3 D.f3.length p3, .int .i64 z], .bool true, .bool false, .bool false, .int .i64 (k : Nat), .bool false, .bool false, .bool false, .int .i64 (k : Nat), .pointer (some ⟨w.heap.size, 1, none⟩), .slice (some ⟨g1, o1, none⟩) D.f1.length p1, .int .i64 (D.f1.length : Nat), .bool false, .bool false, .bool false, .int .i64 x, .bool false, .bool false, .bool false, .pointer (some ⟨w.heap.size, 1, none⟩), .slice (some ⟨g1, o1, none⟩) D.f1.length p1, .int .i64 (k : Nat), .pointer (some ⟨g1, o1 + k, none⟩), .slice au nu ku, .int .i64 (nu : Nat), .bool false, .bool false, undef, .agg #[.slice a0 D.f0.length p0, .slice (some ⟨g1, o1, none⟩) D.f1.length p1, .slice a2 D.f2.length p2, .slice a3 D.f3.length p3, .int .i64 z], .agg #[.slice b0 m0 j0, .slice (some ⟨B, 0, none⟩) D.f1.length cap, .slice b2 m2 j2, .slice b3' m3 j3, .int .i64 z], σ 0, σ 1, σ 2, σ 3, σ 4, σ 5, σ 6, σ 7, σ 8, σ 9, σ 10, undef, undef], []⟩) rfl rfl (fun _ => rfl) (fun K hK => ?_)
      go_simp
      exact hK _ _ (Below.refl _ _) rfl
    · skip
      clear hd
      refine StepF.of (a1 := ⟨#[.agg #[.slice a0 D.f0.length p0, .slice (some ⟨g1, o1, none⟩) D.f1.length p1, .slice a2 D.f2.length p2, .slice a3 D.f3.length p3, .int .i64 z], .int .i64 (k : Nat), .int .i64 x, .pointer (some ⟨w.heap.size, 0, none⟩), undef, undef, .pointer (some ⟨w.heap.size + 1, 0, none⟩), .bool false, .pointer (some ⟨X, 0, none⟩), .agg #[.slice a0 D.f0.length p0, .slice (some ⟨g1, o1, none⟩) D.f1.length p1, .slice a2 D.f2.length p2, .slice a3 D.f3.length p3, .int .i64 z], .bool true, .bool false, .bool false, .int .i64 (k : Nat), .bool false, .bool false, .bool false, .int .i64 (k : Nat), .pointer (some ⟨w.heap.size, 1, none⟩), .slice (some ⟨g1, o1, none⟩) D.f1.length p1, .int .i64 (D.f1.length : Nat), .bool false, .bool false, .bool false, .int .i64 x, .bool false, .bool false, .bool false, .pointer (some ⟨w.heap.size, 1, none⟩), .slice (some ⟨g1, o1, none⟩) D.f1.length p1, .int .i64 (k : Nat), .pointer (some ⟨g1, o1 + k, none⟩), .slice au nu ku, .int .i64 (nu : Nat), .bool false, .bool false, undef, .agg #[.slice a0 D.f0.length p0, .slice (some ⟨g1, o1, none⟩) D.f1.length p1, .slice a2 D.f2.length p2, .slice a3 D.f3.length p3, .int .i64 z], .agg #[.slice b0 m0 j0, .slice (some ⟨B, 0, none⟩) D.f1.length cap, .slice b2 m2 j2, .slice b3' m3 j3, .int .i64 z], σ 0, σ 1, σ 2, σ 3, σ 4, σ 5, σ 6, σ 7, σ 8, σ 9, σ 10, undef, undef], []⟩) rfl rfl (fun _ => rfl) (fun K hK => ?_)
      go_simp
      exact hK _ _ (Below.refl _ _) rfl
    · skip
      have f3 : iputF _ _ _ _ _ _ _ _ _ 3 σ c wr := hd 3 (by decide) (by decide)
      simp only [iputF] at f3
      clear hd
      refine StepF.of (a1 := ⟨#[.agg #[.slice a0 D.f0.length p0, .slice (some ⟨g1, o1, none⟩) D.f1.length p1, .slice a2 D.f2.length p2, .slice a3 D.f3.length p3, .int .i64 z], .int .i64 (k : Nat), .int .i64 x, .pointer (some ⟨w.heap.size, 0, none⟩), undef, undef, .pointer (some ⟨w.heap.size + 1, 0, none⟩), .bool false, .pointer (some ⟨X, 0, none⟩), .agg #[.slice a0 D.f0.length p0, .slice (some ⟨g1, o1, none⟩) D.f1.length p1, .slice a2 D.f2.length p2, .slice a3 D.f3.length p3, .int .i64 z], .bool true, .bool false, .bool false, .int .i64 (k : Nat), .bool false, .bool false, .bool false, .int .i64 (k : Nat), .pointer (some ⟨w.heap.size, 1, none⟩), .slice (some ⟨g1, o1, none⟩) D.f1.length p1, .int .i64 (D.f1.length : Nat), .bool false, .bool false, .bool false, .int .i64 x, .bool false, .bool false, .bool false, .pointer (some ⟨w.heap.size, 1, none⟩), .slice (some ⟨g1, o1, none⟩) D.f1.length p1, .int .i64 (k : Nat), .pointer (some ⟨g1, o1 + k, none⟩), .slice au nu ku, .int .i64 (nu : Nat), .bool false, .bool false, undef, .agg #[.slice a0 D.f0.length p0, .slice (some ⟨g1, o1, none⟩) D.f1.length p1, .slice a2 D.f2.length p2, .slice a3 D.f3.length p3, .int .i64 z], .agg #[.slice b0 m0 j0, .slice (some ⟨B, 0, none⟩) D.f1.length cap, .slice b2 m2 j2, .slice b3' m3 j3, .int .i64 z], σ 0, σ 1, σ 2, (.pointer (some ⟨X, 1, none⟩)), σ 4, σ 5, σ 6, σ 7, σ 8, σ 9, σ 10, undef, undef], []⟩) (by simp only [f3]) rfl (fun _ => rfl) (fun K hK => ?_)
      obtain ⟨y0, y1, y2, y3, y4⟩ := (HX.out.of_block (grown_at2 hb X HX.out.lt hgX)).five
      go_simp
      exact hK _ _ (Below.refl _ _) rfl
    · skip
      clear hd
      refine StepF.of (a1 := ⟨#[.agg #[.slice a0 D.f0.length p0, .slice (some ⟨g1, o1, none⟩) D.f1.length p1, .slice a2 D.f2.length p2, .slice a3 D.f3.length p3, .int .i64 z], .int .i64 (k : Nat), .int .i64 x, .pointer (some ⟨w.heap.size, 0, none⟩), undef, undef, .pointer (some ⟨w.heap.size + 1, 0, none⟩), .bool false, .pointer (some ⟨X, 0, none⟩), .agg #[.slice a0 D.f0.length p0, .slice (some ⟨g1, o1, none⟩) D.f1.length p1, .slice a2 D.f2.length p2, .slice a3 D.f3.length p3, .int .i64 z], .bool true, .bool false, .bool false, .int .i64 (k : Nat), .bool false, .bool false, .bool false, .int .i64 (k : Nat), .pointer (some ⟨w.heap.size, 1, none⟩), .slice (some ⟨g1, o1, none⟩) D.f1.length p1, .int .i64 (D.f1.length : Nat), .bool false, .bool false, .bool false, .int .i64 x, .bool false, .bool false, .bool false, .pointer (some ⟨w.heap.size, 1, none⟩), .slice (some ⟨g1, o1, none⟩) D.f1.length p1, .int .i64 (k : Nat), .pointer (some ⟨g1, o1 + k, none⟩), .slice au nu ku, .int .i64 (nu : Nat), .bool false, .bool false, undef, .agg #[.slice a0 D.f0.length p0, .slice (some ⟨g1, o1, none⟩) D.f1.length p1, .slice a2 D.f2.length p2, .slice a3 D.f3.length p3, .int .i64 z], .agg #[.slice b0 m0 j0, .slice (some ⟨B, 0, none⟩) D.f1.length cap, .slice b2 m2 j2, .slice b3' m3 j3, .int .i64 z], σ 0, σ 1, σ 2, σ 3, σ 4, σ 5, σ 6, σ 7, σ 8, σ 9, σ 10, undef, undef], []⟩) rfl rfl (fun _ => rfl) (fun K hK => ?_)
      go_simp
      exact hK _ _ (Below.refl _ _) rfl
    · skip
      have f4 : iputF _ _ _ _ _ _ _ _ _ 4 σ c wr := hd 4 (by decide) (by decide)
      simp only [iputF] at f4
      have f5 : iputF _ _ _ _ _ _ _ _ _ 5 σ c wr := hd 5 (by decide) (by decide)
      simp only [iputF] at f5
      clear hd
      refine StepF.of (a1 := ⟨#[.agg #[.slice a0 D.f0.length p0, .slice (some ⟨g1, o1, none⟩) D.f1.length p1, .slice a2 D.f2.length p2, .slice a3 D.f3.length p3, .int .i64 z], .int .i64 (k : Nat), .int .i64 x, .pointer (some ⟨w.heap.size, 0, none⟩), undef, undef, .pointer (some ⟨w.heap.size + 1, 0, none⟩), .bool false, .pointer (some ⟨X, 0, none⟩), .agg #[.slice a0 D.f0.length p0, .slice (some ⟨g1, o1, none⟩) D.f1.length p1, .slice a2 D.f2.length p2, .slice a3 D.f3.length p3, .int .i64 z], .bool true, .bool false, .bool false, .int .i64 (k : Nat), .bool false, .bool false, .bool false, .int .i64 (k : Nat), .pointer (some ⟨w.heap.size, 1, none⟩), .slice (some ⟨g1, o1, none⟩) D.f1.length p1, .int .i64 (D.f1.length : Nat), .bool false, .bool false, .bool false, .int .i64 x, .bool false, .bool false, .bool false, .pointer (some ⟨w.heap.size, 1, none⟩), .slice (some ⟨g1, o1, none⟩) D.f1.length p1, .int .i64 (k : Nat), .pointer (some ⟨g1, o1 + k, none⟩), .slice au nu ku, .int .i64 (nu : Nat), .bool false, .bool false, undef, .agg #[.slice a0 D.f0.length p0, .slice (some ⟨g1, o1, none⟩) D.f1.length p1, .slice a2 D.f2.length p2, .slice a3 D.f3.length p3, .int .i64 z], .agg #[.slice b0 m0 j0, .slice (some ⟨B, 0, none⟩) D.f1.length cap, .slice b2 m2 j2, .slice b3' m3 j3, .int .i64 z], σ 0, σ 1, σ 2, σ 3, (.slice (some ⟨B, 0, none⟩) D.f1.length cap), (.int .i64 (k : Nat)), σ 6, σ 7, σ 8, σ 9, σ 10, undef, undef], []⟩) (by simp only [f4, f5]) rfl (fun _ => rfl) (fun K hK => ?_)
      go_simp
      exact hK _ _ (Below.refl _ _) rfl
    · skip
      have f6 : iputF _ _ _ _ _ _ _ _ _ 6 σ c wr := hd 6 (by decide) (by decide)
      simp only [iputF] at f6
      clear hd
      refine StepF.of (a1 := ⟨#[.agg #[.slice a0 D.f0.length p0, .slice (some ⟨g1, o1, none⟩) D.f1.length p1, .slice a2 D.f2.length p2, .slice a3 D.f3.length p3, .int .i64 z], .int .i64 (k : Nat), .int .i64 x, .pointer (some ⟨w.heap.size, 0, none⟩), undef, undef, .pointer (some ⟨w.heap.size + 1, 0, none⟩), .bool false, .pointer (some ⟨X, 0, none⟩), .agg #[.slice a0 D.f0.length p0, .slice (some ⟨g1, o1, none⟩) D.f1.length p1, .slice a2 D.f2.length p2, .slice a3 D.f3.length p3, .int .i64 z], .bool true, .bool false, .bool false, .int .i64 (k : Nat), .bool false, .bool false, .bool false, .int .i64 (k : Nat), .pointer (some ⟨w.heap.size, 1, none⟩), .slice (some ⟨g1, o1, none⟩) D.f1.length p1, .int .i64 (D.f1.length : Nat), .bool false, .bool false, .bool false, .int .i64 x, .bool false, .bool false, .bool false, .pointer (some ⟨w.heap.size, 1, none⟩), .slice (some ⟨g1, o1, none⟩) D.f1.length p1, .int .i64 (k : Nat), .pointer (some ⟨g1, o1 + k, none⟩), .slice au nu ku, .int .i64 (nu : Nat), .bool false, .bool false, undef, .agg #[.slice a0 D.f0.length p0, .slice (some ⟨g1, o1, none⟩) D.f1.length p1, .slice a2 D.f2.length p2, .slice a3 D.f3.length p3, .int .i64 z], .agg #[.slice b0 m0 j0, .slice (some ⟨B, 0, none⟩) D.f1.length cap, .slice b2 m2 j2, .slice b3' m3 j3, .int .i64 z], σ 0, σ 1, σ 2, σ 3, σ 4, σ 5, (.pointer (some ⟨B, k, none⟩)), σ 7, σ 8, σ 9, σ 10, undef, undef], []⟩) (by simp only [f6]) rfl (fun _ => rfl) (fun K hK => ?_)
      have cu := (World.cell?_of_block (a := ⟨B, k, none⟩) (grown_at2 hb B (lt_of_cell CU.out) hgB)).trans CU.out
      go_simp
      exact hK _ _ (Below.refl _ _) (by show Value.slice au' nu' ku' = uu; exact eu.symm)
    · skip
      clear hd
      refine StepF.of (a1 := ⟨#[.agg #[.slice a0 D.f0.length p0, .slice (some ⟨g1, o1, none⟩) D.f1.length p1, .slice a2 D.f2.length p2, .slice a3 D.f3.length p3, .int .i64 z], .int .i64 (k : Nat), .int .i64 x, .pointer (some ⟨w.heap.size, 0, none⟩), undef, undef, .pointer (some ⟨w.heap.size + 1, 0, none⟩), .bool false, .pointer (some ⟨X, 0, none⟩), .agg #[.slice a0 D.f0.length p0, .slice (some ⟨g1, o1, none⟩) D.f1.length p1, .slice a2 D.f2.length p2, .slice a3 D.f3.length p3, .int .i64 z], .bool true, .bool false, .bool false, .int .i64 (k : Nat), .bool false, .bool false, .bool false, .int .i64 (k : Nat), .pointer (some ⟨w.heap.size, 1, none⟩), .slice (some ⟨g1, o1, none⟩) D.f1.length p1, .int .i64 (D.f1.length : Nat), .bool false, .bool false, .bool false, .int .i64 x, .bool false, .bool false, .bool false, .pointer (some ⟨w.heap.size, 1, none⟩), .slice (some ⟨g1, o1, none⟩) D.f1.length p1, .int .i64 (k : Nat), .pointer (some ⟨g1, o1 + k, none⟩), .slice au nu ku, .int .i64 (nu : Nat), .bool false, .bool false, undef, .agg #[.slice a0 D.f0.length p0, .slice (some ⟨g1, o1, none⟩) D.f1.length p1, .slice a2 D.f2.length p2, .slice a3 D.f3.length p3, .int .i64 z], .agg #[.slice b0 m0 j0, .slice (some ⟨B, 0, none⟩) D.f1.length cap, .slice b2 m2 j2, .slice b3' m3 j3, .int .i64 z], σ 0, σ 1, σ 2, σ 3, σ 4, σ 5, σ 6, σ 7, σ 8, σ 9, σ 10, undef, undef], []⟩) rfl rfl (fun _ => rfl) (fun K hK => ?_)
      go_simp
      exact hK _ _ (Below.refl _ _) rfl
    · skip
      have f8 : iputF _ _ _ _ _ _ _ _ _ 8 σ c wr := hd 8 (by decide) (by decide)
      simp only [iputF] at f8
      clear hd
      refine StepF.of (a1 := ⟨#[.agg #[.slice a0 D.f0.length p0, .slice (some ⟨g1, o1, none⟩) D.f1.length p1, .slice a2 D.f2.length p2, .slice a3 D.f3.length p3, .int .i64 z], .int .i64 (k : Nat), .int .i64 x, .pointer (some ⟨w.heap.size, 0, none⟩), undef, undef, .pointer (some ⟨w.heap.size + 1, 0, none⟩), .bool false, .pointer (some ⟨X, 0, none⟩), .agg #[.slice a0 D.f0.length p0, .slice (some ⟨g1, o1, none⟩) D.f1.length p1, .slice a2 D.f2.length p2, .slice a3 D.f3.length p3, .int .i64 z], .bool true, .bool false, .bool false, .int .i64 (k : Nat), .bool false, .bool false, .bool false, .int .i64 (k : Nat), .pointer (some ⟨w.heap.size, 1, none⟩), .slice (some ⟨g1, o1, none⟩) D.f1.length p1, .int .i64 (D.f1.length : Nat), .bool false, .bool false, .bool false, .int .i64 x, .bool false, .bool false, .bool false, .pointer (some ⟨w.heap.size, 1, none⟩), .slice (some ⟨g1, o1, none⟩) D.f1.length p1, .int .i64 (k : Nat), .pointer (some ⟨g1, o1 + k, none⟩), .slice au nu ku, .int .i64 (nu : Nat), .bool false, .bool false, undef, .agg #[.slice a0 D.f0.length p0, .slice (some ⟨g1, o1, none⟩) D.f1.length p1, .slice a2 D.f2.length p2, .slice a3 D.f3.length p3, .int .i64 z], .agg #[.slice b0 m0 j0, .slice (some ⟨B, 0, none⟩) D.f1.length cap, .slice b2 m2 j2, .slice b3' m3 j3, .int .i64 z], σ 0, σ 1, σ 2, σ 3, σ 4, σ 5, σ 6, σ 7, (.int .i64 x), σ 9, σ 10, undef, undef], []⟩) (by simp only [f8]) rfl (fun _ => rfl) (fun K hK => ?_)
      have hsz := hb.size
      go_simp
      refine hK _ _ ((Below.refl _ _).alloc (Nat.le_refl _) _) ⟨_, rfl, ?_, by omega⟩
      show World.cell? (wr.alloc (.cells #[.int .i64 x] 3)) ⟨wr.heap.size, 0, none⟩ = some (.int .i64 x)
      rw [World.cell?_alloc_new]
      rfl
    · exact absurd rfl hne
end Go.Proofs.Ytepnhbicmlfnhac
