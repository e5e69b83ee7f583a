/-
  spec.DrawIsFairer: whatever two shares it draws. Nothing old is written.
-/
import Derived.Test.YtepnhbicmlfnhadDrawShFns
import Derived.Test.YtepnhbicmlfnhadSGrowFn
namespace Go.Proofs.Ytepnhbicmlfnhad
open Go.RowKit

theorem pair_leaf {w V : World} {b1 b2 lo1 hi1 lo2 hi2 n1 k1 n2 k2 : Nat} {a1 a2 : Option Addr} {z1 z2 : Int} {D1 D2 : ShD} {x0 x1 y0 y1 : Value} (PA : BoxL V b1 [x0, x1]) (PB : BoxL V b2 [y0, y1]) (hne : b1 < b2) (B : Below w.heap.size w V) (hb : w.heap.size ≤ b1)
    (O1 : ShOwn (Iv lo1 hi1) V (.agg #[.slice a1 n1 k1, .int .i64 z1]) D1) (O2 : ShOwn (Iv lo2 hi2) V (.agg #[.slice a2 n2 k2, .int .i64 z2]) D2) (h1 : b2 < lo1) (h2 : b2 < lo2) :
    BoxL ((V.setCell ⟨b1, 0, none⟩ (.slice a1 n1 k1)).setCell ⟨b1, 1, none⟩ (.int .i64 z1)) b2 [y0, y1] ∧ (ShReads ((((V.setCell ⟨b1, 0, none⟩ (.slice a1 n1 k1)).setCell ⟨b1, 1, none⟩ (.int .i64 z1)).setCell ⟨b2, 0, none⟩ (.slice a2 n2 k2)).setCell ⟨b2, 1, none⟩ (.int .i64 z2)) (.agg #[.slice a1 n1 k1, .int .i64 z1]) D1 ∧ ShReads ((((V.setCell ⟨b1, 0, none⟩ (.slice a1 n1 k1)).setCell ⟨b1, 1, none⟩ (.int .i64 z1)).setCell ⟨b2, 0, none⟩ (.slice a2 n2 k2)).setCell ⟨b2, 1, none⟩ (.int .i64 z2)) (.agg #[.slice a2 n2 k2, .int .i64 z2]) D2 ∧ Below w.heap.size w ((((V.setCell ⟨b1, 0, none⟩ (.slice a1 n1 k1)).setCell ⟨b1, 1, none⟩ (.int .i64 z1)).setCell ⟨b2, 0, none⟩ (.slice a2 n2 k2)).setCell ⟨b2, 1, none⟩ (.int .i64 z2))) ∧
    (((((V.setCell ⟨b1, 0, none⟩ (.slice a1 n1 k1)).setCell ⟨b1, 1, none⟩ (.int .i64 z1)).setCell ⟨b2, 0, none⟩ (.slice a2 n2 k2)).setCell ⟨b2, 1, none⟩ (.int .i64 z2)).cell? ⟨b1, 0, none⟩ = some (.slice a1 n1 k1) ∧ ((((V.setCell ⟨b1, 0, none⟩ (.slice a1 n1 k1)).setCell ⟨b1, 1, none⟩ (.int .i64 z1)).setCell ⟨b2, 0, none⟩ (.slice a2 n2 k2)).setCell ⟨b2, 1, none⟩ (.int .i64 z2)).cell? ⟨b1, 1, none⟩ = some (.int .i64 z1)) ∧
    (((((V.setCell ⟨b1, 0, none⟩ (.slice a1 n1 k1)).setCell ⟨b1, 1, none⟩ (.int .i64 z1)).setCell ⟨b2, 0, none⟩ (.slice a2 n2 k2)).setCell ⟨b2, 1, none⟩ (.int .i64 z2)).cell? ⟨b2, 0, none⟩ = some (.slice a2 n2 k2) ∧ ((((V.setCell ⟨b1, 0, none⟩ (.slice a1 n1 k1)).setCell ⟨b1, 1, none⟩ (.int .i64 z1)).setCell ⟨b2, 0, none⟩ (.slice a2 n2 k2)).setCell ⟨b2, 1, none⟩ (.int .i64 z2)).cell? ⟨b2, 1, none⟩ = some (.int .i64 z2)) := by
  have ON1 := two_only V b1 (.slice a1 n1 k1) (.int .i64 z1)
  have PB1 := PB.of_block (ON1.2.1 b2 (by omega))
  have PA1 := two_put PA (.slice a1 n1 k1) (.int .i64 z1)
  have BB1 := B.trans (two_below V (.slice a1 n1 k1) (.int .i64 z1) hb)
  generalize (V.setCell ⟨b1, 0, none⟩ (.slice a1 n1 k1)).setCell ⟨b1, 1, none⟩ (.int .i64 z1) = U at *
  have ON2 := two_only U b2 (.slice a2 n2 k2) (.int .i64 z2)
  have KP : ∀ g, b2 < g → ((U.setCell ⟨b2, 0, none⟩ (.slice a2 n2 k2)).setCell ⟨b2, 1, none⟩ (.int .i64 z2)).heap[g]? = V.heap[g]? := fun g hg => (ON2.2.1 g (by omega)).trans (ON1.2.1 g (by omega))
  refine ⟨PB1, ⟨(O1.at fun g hg _ => KP g (by have := hg.1; omega)).reads, (O2.at fun g hg _ => KP g (by have := hg.1; omega)).reads, BB1.trans (two_below U _ _ (by omega))⟩, (PA1.of_block (ON2.2.1 b1 (by omega))).two, (two_put PB1 _ _).two⟩
set_option maxRecDepth 100000 in
set_option maxHeartbeats 8000000 in
theorem drawFairer_any (v : Value) (w : World) (h : CodeOk w.heap.size w v) :
    Calls Try.prog 17 #[v] w fun e w' => ∃ u1 u2, e = .returned (.tuple #[u1, u2]) ∧ ∃ D1 D2 : ShD, ShReads w' u1 D1 ∧ ShReads w' u2 D2 ∧ Below w.heap.size w w' := by
  have P := box_two w (.slice none 0 0) (.int .i64 0) (.slice none 0 0) (.int .i64 0) 25
  obtain ⟨W, hW⟩ : ∃ W, W = (w.alloc (.cells #[.slice none 0 0, .int .i64 0] 25)).alloc (.cells #[.slice none 0 0, .int .i64 0] 25) := ⟨_, rfl⟩
  rw [← hW] at P
  obtain ⟨PA, PB, BR, hsR⟩ := P
  have hk := (h.below BR).up (show w.heap.size ≤ W.heap.size by omega)
  have H := cur_new W v hk
  obtain ⟨a, len, cap, rfl, hlen, hx⟩ := h
  obtain ⟨V, hV⟩ : ∃ V, V = W.alloc (.cells #[.slice a len cap, .int .i64 0, .int .u64 0] 61) := ⟨_, rfl⟩
  rw [← hV] at H
  have B2 : Below W.heap.size W V := by rw [hV]; exact (Below.refl _ _).alloc (Nat.le_refl _) _
  have hsV : V.heap.size = W.heap.size + 1 := by rw [hV]; exact World.size_alloc _ _
  have HC := hid H
  have HA := hid (PA.below B2 PA.lt)
  have HB := hid (PB.below B2 PB.lt)
  have B : Hid (Below w.heap.size w V) := BR.trans (B2.mono (by omega))
  rw [hW] at hV
  have HV := hid hV
  rw [hsR] at HC
  clear hlen hx hk H PA PB BR B2 hV hW
  go_enter Try.func17, Try.ntmps17
  go_wp2_with fail
  rw [← HV.out]
  clear HV
  refine (shares_any (w.heap.size + 2) (w.heap.size + 2) 0 _ HC.out (by omega)).mono ?_
  rintro e w1 ⟨u, rfl, D, o1, c1, g1⟩
  obtain ⟨a1, n1, k1, rfl⟩ := o1.form
  obtain ⟨z1, hz1⟩ : ∃ z1, z1 = D.f1 := ⟨_, rfl⟩
  rw [← hz1] at o1 ⊢
  have hs1 := g1.size
  replace HA := hid (HA.out.of_block (g1.block _ HA.out.lt (by intro e; injection e with e; omega)))
  replace HB := hid (HB.out.of_block (g1.block _ HB.out.lt (by intro e; injection e with e; omega)))
  replace B := hid (B.out.trans (only_below g1 (show w.heap.size ≤ w.heap.size + 2 by omega) (by omega)))
  obtain ⟨P5, B5, hs5⟩ := box_next (w := w1) (.slice a1 n1 k1) (.int .i64 z1) 25
  obtain ⟨q0, q1⟩ := P5.two
  obtain ⟨W5, hW5⟩ : ∃ V, V = w1.alloc (.cells #[.slice a1 n1 k1, .int .i64 z1] 25) := ⟨_, rfl⟩
  rw [← hW5] at P5 B5 hs5
  replace HA := hid (HA.out.below B5 HA.out.lt)
  replace HB := hid (HB.out.below B5 HB.out.lt)
  replace B := hid (B.out.trans (B5.mono B.out.size))
  have O1 := hid (o1.below B5)
  have HC1 := hid (c1.below B5)
  have H5 := hid P5
  have HW5 := hid hW5
  clear o1 c1 g1 HC hz1 P5 B5 hW5
  go_wp2_with fail
  rw [← HW5.out]
  clear HW5 q0 q1
  obtain ⟨t2, ht2⟩ : ∃ t, growB D = t := ⟨_, rfl⟩
  refine (sgrowAll_any _ D _ O1.out.reads _ t2 rfl ht2).mono ?_
  rintro e w2 ⟨u2, rfl, o2, b2⟩
  obtain ⟨a2, n2, k2, rfl⟩ := o2.form
  obtain ⟨z2, hz2⟩ : ∃ z2, z2 = (growR D).f1 := ⟨_, rfl⟩
  rw [← hz2] at o2 ⊢
  have hs2 := b2.size
  replace HA := hid (HA.out.below b2 HA.out.lt)
  replace HB := hid (HB.out.below b2 HB.out.lt)
  replace H5 := hid (H5.out.below b2 H5.out.lt)
  replace B := hid (B.out.trans (b2.mono B.out.size))
  replace O1 := hid (O1.out.below b2)
  replace HC1 := hid (HC1.out.below b2)
  obtain ⟨P6, B6, hs6⟩ := box_next (w := w2) (.slice a2 n2 k2) (.int .i64 z2) 25
  obtain ⟨W6, hW6⟩ : ∃ V, V = w2.alloc (.cells #[.slice a2 n2 k2, .int .i64 z2] 25) := ⟨_, rfl⟩
  rw [← hW6] at P6 B6 hs6
  replace HA := hid (HA.out.below B6 HA.out.lt)
  replace HB := hid (HB.out.below B6 HB.out.lt)
  replace H5 := hid (H5.out.below B6 H5.out.lt)
  replace B := hid (B.out.trans (B6.mono B.out.size))
  replace O1 := hid (O1.out.below B6)
  replace HC1 := hid (HC1.out.below B6)
  have O2 := hid (o2.below B6)
  have H6 := hid P6
  have HW6 := hid hW6
  clear o2 b2 P6 B6 hW6 hz2 ht2
  cases t2
  · go_wp2_with fail
    rw [← HW6.out]
    clear HW6
    refine wp_region_any (by kernel_rfl) ?_
    change wpAny _ _ _ _ _ _ _ (World.drew _)
    obtain ⟨X, hX⟩ : ∃ X, X = World.drew W6 := ⟨_, rfl⟩
    have BX : Below W6.heap.size W6 X := by rw [hX]; exact (Below.refl _ _).drew
    have hsX : X.heap.size = W6.heap.size := by rw [hX]; rfl
    replace HA := hid (HA.out.below BX HA.out.lt)
    replace HB := hid (HB.out.below BX HB.out.lt)
    replace H5 := hid (H5.out.below BX H5.out.lt)
    replace B := hid (B.out.trans (BX.mono B.out.size))
    replace O1 := hid (O1.out.below BX)
    replace HC1 := hid (HC1.out.below BX)
    rw [← hX]
    clear hX BX O2 H6
    refine wpAny_take (i := 1) (v := (.pointer (some ⟨w.heap.size + 1 + 1, 0, none⟩))) rfl (by kernel_rfl) (by kernel_rfl) (by kernel_rfl) (fun _ _ _ h => h) (Or.inl ⟨by kernel_rfl, fun _ => by go_simp⟩) ?_
    try simp only [Act.put]
    try simp only [List.setIfInBounds_toArray]
    try simp only [List.set_cons_succ]
    try simp only [List.set_cons_zero]
    refine wpAny_ready (rs := [0, 2]) (by kernel_rfl) (by simp) ?_
    refine AllReady.cons rfl (fun K hK => ?_) (AllReady.cons rfl (fun K hK => ?_) AllReady.nil)
    · obtain ⟨x0, x1⟩ := H5.out.two
      go_simp
      refine hK _ _ ?_
      clear hK K x0 x1
      refine wpAny_ready (rs := [2]) (by kernel_rfl) (by simp) ?_
      refine AllReady.cons rfl (fun K hK => ?_) AllReady.nil
      go_simp
      refine (shares_any (w.heap.size + 2) (w.heap.size + 2) 200 _ (HC1.out.mono (by omega)) (by omega)).mono ?_
      rintro e w8 ⟨u8, rfl, D8, o8, c8, g8⟩
      obtain ⟨a8, n8, k8, rfl⟩ := o8.form
      obtain ⟨z8, hz8⟩ : ∃ z8, z8 = D8.f1 := ⟨_, rfl⟩
      rw [← hz8] at o8 ⊢
      have hs8 := g8.size
      replace HA := hid (HA.out.of_block (g8.block _ HA.out.lt (by intro e; injection e with e; omega)))
      replace HB := hid (HB.out.of_block (g8.block _ HB.out.lt (by intro e; injection e with e; omega)))
      replace H5 := hid (H5.out.of_block (g8.block _ H5.out.lt (by intro e; injection e with e; omega)))
      replace B := hid (B.out.trans (only_below g8 (show w.heap.size ≤ w.heap.size + 2 by omega) (by omega)))
      replace O1 := hid (O1.out.grow g8 (by omega))
      have O8 := hid o8
      refine hK _ _ ?_
      clear hK K o8 c8 g8 hz8
      have LF := pair_leaf HA.out HB.out (by omega) B.out (Nat.le_refl _) O1.out O8.out (by omega) (by omega)
      have R1 := hid LF.2.1.1
      have R2 := hid LF.2.1.2.1
      have RB := hid LF.2.1.2.2
      obtain ⟨⟨y0, f0⟩, y1, f1⟩ := HA.out.form2
      obtain ⟨⟨y2, f2⟩, y3, f3⟩ := LF.1.form2
      obtain ⟨⟨t0, t1⟩, t2, t3⟩ := LF.2.2
      clear LF
      refine wpAny_ready (rs := [3]) (by kernel_rfl) (by simp) ?_
      refine AllReady.cons rfl (fun K hK => ?_) AllReady.nil
      go_simp
      refine hK _ _ ?_
      clear hK K
      refine wpAny_ready (rs := [4]) (by kernel_rfl) (by simp) ?_
      refine AllReady.cons rfl (fun K hK => ?_) AllReady.nil
      go_simp
      refine hK _ _ ?_
      clear hK K
      refine wpAny_done (by kernel_rfl) ?_ _
      go_wp2
      exact bodyPost_ret (v := .tuple #[.agg #[.slice a1 n1 k1, .int .i64 z1], .agg #[.slice a8 n8 k8, .int .i64 z8]]) (by simp [results, Try.results17, go_sem, t0, t1, t2, t3]) rfl ⟨_, _, rfl, _, _, R1.out, R2.out, RB.out⟩
    · go_simp
      refine (shares_any (w.heap.size + 2) (w.heap.size + 2) 200 _ (HC1.out.mono (by omega)) (by omega)).mono ?_
      rintro e w8 ⟨u8, rfl, D8, o8, c8, g8⟩
      obtain ⟨a8, n8, k8, rfl⟩ := o8.form
      obtain ⟨z8, hz8⟩ : ∃ z8, z8 = D8.f1 := ⟨_, rfl⟩
      rw [← hz8] at o8 ⊢
      have hs8 := g8.size
      replace HA := hid (HA.out.of_block (g8.block _ HA.out.lt (by intro e; injection e with e; omega)))
      replace HB := hid (HB.out.of_block (g8.block _ HB.out.lt (by intro e; injection e with e; omega)))
      replace H5 := hid (H5.out.of_block (g8.block _ H5.out.lt (by intro e; injection e with e; omega)))
      replace B := hid (B.out.trans (only_below g8 (show w.heap.size ≤ w.heap.size + 2 by omega) (by omega)))
      replace O1 := hid (O1.out.grow g8 (by omega))
      have O8 := hid o8
      refine hK _ _ ?_
      clear hK K o8 c8 g8 hz8
      obtain ⟨x0, x1⟩ := H5.out.two
      refine wpAny_ready (rs := [0]) (by kernel_rfl) (by simp) ?_
      refine AllReady.cons rfl (fun K hK => ?_) AllReady.nil
      go_simp
      refine hK _ _ ?_
      clear hK K
      clear x0 x1
      have LF := pair_leaf HA.out HB.out (by omega) B.out (Nat.le_refl _) O1.out O8.out (by omega) (by omega)
      have R1 := hid LF.2.1.1
      have R2 := hid LF.2.1.2.1
      have RB := hid LF.2.1.2.2
      obtain ⟨⟨y0, f0⟩, y1, f1⟩ := HA.out.form2
      obtain ⟨⟨y2, f2⟩, y3, f3⟩ := LF.1.form2
      obtain ⟨⟨t0, t1⟩, t2, t3⟩ := LF.2.2
      clear LF
      refine wpAny_ready (rs := [3]) (by kernel_rfl) (by simp) ?_
      refine AllReady.cons rfl (fun K hK => ?_) AllReady.nil
      go_simp
      refine hK _ _ ?_
      clear hK K
      refine wpAny_ready (rs := [4]) (by kernel_rfl) (by simp) ?_
      refine AllReady.cons rfl (fun K hK => ?_) AllReady.nil
      go_simp
      refine hK _ _ ?_
      clear hK K
      refine wpAny_done (by kernel_rfl) ?_ _
      go_wp2
      exact bodyPost_ret (v := .tuple #[.agg #[.slice a1 n1 k1, .int .i64 z1], .agg #[.slice a8 n8 k8, .int .i64 z8]]) (by simp [results, Try.results17, go_sem, t0, t1, t2, t3]) rfl ⟨_, _, rfl, _, _, R1.out, R2.out, RB.out⟩
  · go_wp2_with fail
    rw [← HW6.out]
    clear HW6
    refine (one_any (w.heap.size + 2) (w.heap.size + 2) 100 3 _ HC1.out (by omega) (by omega)).mono ?_
    rintro e w7 ⟨t7, rfl, c7, g7⟩
    have hs7 := g7.size
    replace HA := hid (HA.out.of_block (g7.block _ HA.out.lt (by intro e; injection e with e; omega)))
    replace HB := hid (HB.out.of_block (g7.block _ HB.out.lt (by intro e; injection e with e; omega)))
    replace H5 := hid (H5.out.of_block (g7.block _ H5.out.lt (by intro e; injection e with e; omega)))
    replace H6 := hid (H6.out.of_block (g7.block _ H6.out.lt (by intro e; injection e with e; omega)))
    replace B := hid (B.out.trans (only_below g7 (show w.heap.size ≤ w.heap.size + 2 by omega) (by omega)))
    replace O1 := hid (O1.out.grow g7 (by omega))
    replace O2 := hid (O2.out.grow g7 (by omega))
    replace HC1 := hid c7
    clear c7 g7
    cases t7
    · go_wp2_with fail
      refine wp_region_any (by kernel_rfl) ?_
      change wpAny _ _ _ _ _ _ _ (World.drew _)
      obtain ⟨X, hX⟩ : ∃ X, X = World.drew w7 := ⟨_, rfl⟩
      have BX : Below w7.heap.size w7 X := by rw [hX]; exact (Below.refl _ _).drew
      have hsX : X.heap.size = w7.heap.size := by rw [hX]; rfl
      replace HA := hid (HA.out.below BX HA.out.lt)
      replace HB := hid (HB.out.below BX HB.out.lt)
      replace H5 := hid (H5.out.below BX H5.out.lt)
      replace B := hid (B.out.trans (BX.mono B.out.size))
      replace O1 := hid (O1.out.below BX)
      replace HC1 := hid (HC1.out.below BX)
      rw [← hX]
      clear hX BX O2 H6
      refine wpAny_take (i := 1) (v := (.pointer (some ⟨w.heap.size + 1 + 1, 0, none⟩))) rfl (by kernel_rfl) (by kernel_rfl) (by kernel_rfl) (fun _ _ _ h => h) (Or.inl ⟨by kernel_rfl, fun _ => by go_simp⟩) ?_
      try simp only [Act.put]
      try simp only [List.setIfInBounds_toArray]
      try simp only [List.set_cons_succ]
      try simp only [List.set_cons_zero]
      refine wpAny_ready (rs := [0, 2]) (by kernel_rfl) (by simp) ?_
      refine AllReady.cons rfl (fun K hK => ?_) (AllReady.cons rfl (fun K hK => ?_) AllReady.nil)
      · obtain ⟨x0, x1⟩ := H5.out.two
        go_simp
        refine hK _ _ ?_
        clear hK K x0 x1
        refine wpAny_ready (rs := [2]) (by kernel_rfl) (by simp) ?_
        refine AllReady.cons rfl (fun K hK => ?_) AllReady.nil
        go_simp
        refine (shares_any (w.heap.size + 2) (w.heap.size + 2) 200 _ (HC1.out.mono (by omega)) (by omega)).mono ?_
        rintro e w8 ⟨u8, rfl, D8, o8, c8, g8⟩
        obtain ⟨a8, n8, k8, rfl⟩ := o8.form
        obtain ⟨z8, hz8⟩ : ∃ z8, z8 = D8.f1 := ⟨_, rfl⟩
        rw [← hz8] at o8 ⊢
        have hs8 := g8.size
        replace HA := hid (HA.out.of_block (g8.block _ HA.out.lt (by intro e; injection e with e; omega)))
        replace HB := hid (HB.out.of_block (g8.block _ HB.out.lt (by intro e; injection e with e; omega)))
        replace H5 := hid (H5.out.of_block (g8.block _ H5.out.lt (by intro e; injection e with e; omega)))
        replace B := hid (B.out.trans (only_below g8 (show w.heap.size ≤ w.heap.size + 2 by omega) (by omega)))
        replace O1 := hid (O1.out.grow g8 (by omega))
        have O8 := hid o8
        refine hK _ _ ?_
        clear hK K o8 c8 g8 hz8
        have LF := pair_leaf HA.out HB.out (by omega) B.out (Nat.le_refl _) O1.out O8.out (by omega) (by omega)
        have R1 := hid LF.2.1.1
        have R2 := hid LF.2.1.2.1
        have RB := hid LF.2.1.2.2
        obtain ⟨⟨y0, f0⟩, y1, f1⟩ := HA.out.form2
        obtain ⟨⟨y2, f2⟩, y3, f3⟩ := LF.1.form2
        obtain ⟨⟨t0, t1⟩, t2, t3⟩ := LF.2.2
        clear LF
        refine wpAny_ready (rs := [3]) (by kernel_rfl) (by simp) ?_
        refine AllReady.cons rfl (fun K hK => ?_) AllReady.nil
        go_simp
        refine hK _ _ ?_
        clear hK K
        refine wpAny_ready (rs := [4]) (by kernel_rfl) (by simp) ?_
        refine AllReady.cons rfl (fun K hK => ?_) AllReady.nil
        go_simp
        refine hK _ _ ?_
        clear hK K
        refine wpAny_done (by kernel_rfl) ?_ _
        go_wp2
        exact bodyPost_ret (v := .tuple #[.agg #[.slice a1 n1 k1, .int .i64 z1], .agg #[.slice a8 n8 k8, .int .i64 z8]]) (by simp [results, Try.results17, go_sem, t0, t1, t2, t3]) rfl ⟨_, _, rfl, _, _, R1.out, R2.out, RB.out⟩
      · go_simp
        refine (shares_any (w.heap.size + 2) (w.heap.size + 2) 200 _ (HC1.out.mono (by omega)) (by omega)).mono ?_
        rintro e w8 ⟨u8, rfl, D8, o8, c8, g8⟩
        obtain ⟨a8, n8, k8, rfl⟩ := o8.form
        obtain ⟨z8, hz8⟩ : ∃ z8, z8 = D8.f1 := ⟨_, rfl⟩
        rw [← hz8] at o8 ⊢
        have hs8 := g8.size
        replace HA := hid (HA.out.of_block (g8.block _ HA.out.lt (by intro e; injection e with e; omega)))
        replace HB := hid (HB.out.of_block (g8.block _ HB.out.lt (by intro e; injection e with e; omega)))
        replace H5 := hid (H5.out.of_block (g8.block _ H5.out.lt (by intro e; injection e with e; omega)))
        replace B := hid (B.out.trans (only_below g8 (show w.heap.size ≤ w.heap.size + 2 by omega) (by omega)))
        replace O1 := hid (O1.out.grow g8 (by omega))
        have O8 := hid o8
        refine hK _ _ ?_
        clear hK K o8 c8 g8 hz8
        obtain ⟨x0, x1⟩ := H5.out.two
        refine wpAny_ready (rs := [0]) (by kernel_rfl) (by simp) ?_
        refine AllReady.cons rfl (fun K hK => ?_) AllReady.nil
        go_simp
        refine hK _ _ ?_
        clear hK K
        clear x0 x1
        have LF := pair_leaf HA.out HB.out (by omega) B.out (Nat.le_refl _) O1.out O8.out (by omega) (by omega)
        have R1 := hid LF.2.1.1
        have R2 := hid LF.2.1.2.1
        have RB := hid LF.2.1.2.2
        obtain ⟨⟨y0, f0⟩, y1, f1⟩ := HA.out.form2
        obtain ⟨⟨y2, f2⟩, y3, f3⟩ := LF.1.form2
        obtain ⟨⟨t0, t1⟩, t2, t3⟩ := LF.2.2
        clear LF
        refine wpAny_ready (rs := [3]) (by kernel_rfl) (by simp) ?_
        refine AllReady.cons rfl (fun K hK => ?_) AllReady.nil
        go_simp
        refine hK _ _ ?_
        clear hK K
        refine wpAny_ready (rs := [4]) (by kernel_rfl) (by simp) ?_
        refine AllReady.cons rfl (fun K hK => ?_) AllReady.nil
        go_simp
        refine hK _ _ ?_
        clear hK K
        refine wpAny_done (by kernel_rfl) ?_ _
        go_wp2
        exact bodyPost_ret (v := .tuple #[.agg #[.slice a1 n1 k1, .int .i64 z1], .agg #[.slice a8 n8 k8, .int .i64 z8]]) (by simp [results, Try.results17, go_sem, t0, t1, t2, t3]) rfl ⟨_, _, rfl, _, _, R1.out, R2.out, RB.out⟩
    · go_wp2_with fail
      refine wp_region_any (by kernel_rfl) ?_
      change wpAny _ _ _ _ _ _ _ (World.drew _)
      obtain ⟨X, hX⟩ : ∃ X, X = World.drew w7 := ⟨_, rfl⟩
      have BX : Below w7.heap.size w7 X := by rw [hX]; exact (Below.refl _ _).drew
      replace HA := hid (HA.out.below BX HA.out.lt)
      replace HB := hid (HB.out.below BX HB.out.lt)
      replace H5 := hid (H5.out.below BX H5.out.lt)
      replace H6 := hid (H6.out.below BX H6.out.lt)
      replace B := hid (B.out.trans (BX.mono B.out.size))
      replace O1 := hid (O1.out.below BX)
      replace O2 := hid (O2.out.below BX)
      rw [← hX]
      clear hX BX HC1
      have LF := pair_leaf HA.out HB.out (by omega) B.out (Nat.le_refl _) O2.out O1.out (by omega) (by omega)
      have R1 := hid LF.2.1.1
      have R2 := hid LF.2.1.2.1
      have RB := hid LF.2.1.2.2
      obtain ⟨⟨y0, f0⟩, y1, f1⟩ := HA.out.form2
      obtain ⟨⟨y2, f2⟩, y3, f3⟩ := LF.1.form2
      obtain ⟨⟨t0, t1⟩, t2, t3⟩ := LF.2.2
      clear LF
      have H5U := hid (H5.out.of_block ((two_only X w.heap.size (.slice a2 n2 k2) (.int .i64 z2)).2.1 _ (by omega)))
      obtain ⟨p0, p1⟩ := H5.out.two
      obtain ⟨p2, p3⟩ := H6.out.two
      obtain ⟨p4, p5⟩ := H5U.out.two
      refine wpAny_ready (rs := [0, 1]) (by kernel_rfl) (by simp) ?_
      refine AllReady.cons rfl (fun K hK => ?_) (AllReady.cons rfl (fun K hK => ?_) AllReady.nil)
      · go_simp
        refine hK _ _ ?_
        clear hK K
        refine wpAny_ready (rs := [1, 2]) (by kernel_rfl) (by simp) ?_
        refine AllReady.cons rfl (fun K hK => ?_) (AllReady.cons rfl (fun K hK => ?_) AllReady.nil)
        · go_simp
          refine hK _ _ ?_
          clear hK K
          refine wpAny_ready (rs := [2]) (by kernel_rfl) (by simp) ?_
          refine AllReady.cons rfl (fun K hK => ?_) AllReady.nil
          go_simp
          refine hK _ _ ?_
          clear hK K
          refine wpAny_ready (rs := [3]) (by kernel_rfl) (by simp) ?_
          refine AllReady.cons rfl (fun K hK => ?_) AllReady.nil
          go_simp
          refine hK _ _ ?_
          clear hK K
          refine wpAny_done (by kernel_rfl) ?_ _
          go_wp2
          exact bodyPost_ret (v := .tuple #[.agg #[.slice a2 n2 k2, .int .i64 z2], .agg #[.slice a1 n1 k1, .int .i64 z1]]) (by simp [results, Try.results17, go_sem, t0, t1, t2, t3]) rfl ⟨_, _, rfl, _, _, R1.out, R2.out, RB.out⟩
        · go_simp
          refine hK _ _ ?_
          clear hK K
          refine wpAny_ready (rs := [1]) (by kernel_rfl) (by simp) ?_
          refine AllReady.cons rfl (fun K hK => ?_) AllReady.nil
          go_simp
          refine hK _ _ ?_
          clear hK K
          refine wpAny_ready (rs := [3]) (by kernel_rfl) (by simp) ?_
          refine AllReady.cons rfl (fun K hK => ?_) AllReady.nil
          go_simp
          refine hK _ _ ?_
          clear hK K
          refine wpAny_done (by kernel_rfl) ?_ _
          go_wp2
          exact bodyPost_ret (v := .tuple #[.agg #[.slice a2 n2 k2, .int .i64 z2], .agg #[.slice a1 n1 k1, .int .i64 z1]]) (by simp [results, Try.results17, go_sem, t0, t1, t2, t3]) rfl ⟨_, _, rfl, _, _, R1.out, R2.out, RB.out⟩
      · go_simp
        refine hK _ _ ?_
        clear hK K
        refine wpAny_ready (rs := [0]) (by kernel_rfl) (by simp) ?_
        refine AllReady.cons rfl (fun K hK => ?_) AllReady.nil
        go_simp
        refine hK _ _ ?_
        clear hK K
        refine wpAny_ready (rs := [2]) (by kernel_rfl) (by simp) ?_
        refine AllReady.cons rfl (fun K hK => ?_) AllReady.nil
        go_simp
        refine hK _ _ ?_
        clear hK K
        refine wpAny_ready (rs := [3]) (by kernel_rfl) (by simp) ?_
        refine AllReady.cons rfl (fun K hK => ?_) AllReady.nil
        go_simp
        refine hK _ _ ?_
        clear hK K
        refine wpAny_done (by kernel_rfl) ?_ _
        go_wp2
        exact bodyPost_ret (v := .tuple #[.agg #[.slice a2 n2 k2, .int .i64 z2], .agg #[.slice a1 n1 k1, .int .i64 z1]]) (by simp [results, Try.results17, go_sem, t0, t1, t2, t3]) rfl ⟨_, _, rfl, _, _, R1.out, R2.out, RB.out⟩
end Go.Proofs.Ytepnhbicmlfnhad
