/-
  The cursor's job and jobs, spec.DrawGoodJobs: whatever they are, few, in memory of their own; of old memory the cursor alone is written.
-/
import Derived.Test.YtobkockikpgcoabJbForm
import Derived.Deep.RegionHeld3
namespace Go.Proofs.Ytobkockikpgcoab
open Go.RowKit

theorem job_ret {H : Nat} {W : World} {z : JbEl} {tmps : Array Value} {R : Ending → World → Prop} (x0 x1 x2 : Int) (hc : JbCells W H 0 z) (ht : tmps[2]?.getD undef = .pointer (some ⟨H, 0, none⟩)) (hR : R (.returned (.agg #[.int .i64 x0, .int .i64 x1, .int .i64 x2])) (jput3 W H 0 (x0, x1, x2))) :
    bodyPost Try.prog Try.f26 R .ret { tmps := tmps, defers := [] } (jput3 W H 0 (x0, x1, x2)) := by
  obtain ⟨e0, e1, e2⟩ := jput3_same hc (x0, x1, x2)
  refine bodyPost_ret (v := .agg #[.int .i64 x0, .int .i64 x1, .int .i64 x2]) ?_ rfl hR
  simp [results, Try.results26, go_sem, ht, e0, e1, e2]
set_option maxRecDepth 100000 in
set_option maxHeartbeats 8000000 in
theorem job_any (B b N : Nat) (w : World) (h : Cur B w b N) (hN : N ≤ 1152921504606846000) :
    Calls Try.prog 26 #[.pointer (some ⟨b, 0, none⟩)] w fun e w' => ∃ x : JbEl, e = .returned (.agg #[.int .i64 x.1, .int .i64 x.2.1, .int .i64 x.2.2]) ∧ Cur B w' b (N + 20) ∧ w.grownBy w' (some b) := by
  have hbw := h.lt'
  have hBb := h.ge'
  have H := hid (h.below ((Below.refl _ _).alloc (Nat.le_refl _) (.cells #[.int .i64 0, .int .i64 0, .int .i64 0] 34)))
  clear h
  obtain ⟨hx, hf⟩ := jalloc3 w (0, 0, 0)
  have HX := hid hx
  have HF := hid hf
  clear hx hf
  go_enter Try.func26, Try.ntmps26
  go_wp2_with fail
  refine (one_any B b N 40 _ H.out (by omega) (by omega)).mono ?_
  rintro e w1 ⟨t1, rfl, c1, g1⟩
  have G1 : Hid (w.grownBy w1 (some b)) := only_trans (only_of_below ((Below.refl _ _).alloc (Nat.le_refl _) _)) g1
  have hs1 : w.heap.size + 1 ≤ w1.heap.size := by have := g1.size; simpa using this
  have X1 := hid (HX.out.only g1 (by omega)); have F1 := hid (HF.out.only (by simp) g1 (by omega))
  have C1 := hid c1
  clear c1 g1 H HX HF
  cases t1
  · go_wp2_with fail
    refine (pick_any B b (N + 2) 14 w1 C1.out (by omega) (by omega)).mono ?_
    rintro e w2 ⟨r2, hr2, rfl, c2, g2⟩
    have hs2 := g2.size
    have X2 := hid (X1.out.only g2 (by omega)); have F2 := hid (F1.out.only (by omega) g2 (by omega)); have C2 := hid c2; have G2 := hid (only_trans G1.out g2); clear c2 g2 C1 G1 X1 F1
    go_wp2_with fail
    refine (pick_any B b (N + 2 + 2) 4 w2 C2.out (by omega) (by omega)).mono ?_
    rintro e w3 ⟨r3, hr3, rfl, c3, g3⟩
    have hs3 := g3.size
    have X3 := hid (X2.out.only g3 (by omega)); have F3 := hid (F2.out.only (by omega) g3 (by omega)); have C3 := hid c3; have G3 := hid (only_trans G2.out g3); clear c3 g3 C2 G2 X2 F2
    have hw3 : IntKind.i64.wrap (1 + (r3 : Int)) = 1 + (r3 : Int) := by rw [IntKind.wrap_i64]; omega
    obtain ⟨q, hq⟩ : ∃ q, q = 1 + (r3 : Int) := ⟨_, rfl⟩
    obtain ⟨W4, hW4⟩ : ∃ W4, W4 = w3.alloc (.cells #[.int .i64 r2, .int .i64 q, .int .i64 0] 34) := ⟨_, rfl⟩
    have hb4 : Below w3.heap.size w3 W4 := by rw [hW4]; exact (Below.refl _ _).alloc (Nat.le_refl _) _
    have hs4 : W4.heap.size = w3.heap.size + 1 := by rw [hW4]; simp
    have C4 := hid (C3.out.below hb4)
    have G4 := hid (only_trans G3.out (only_of_below hb4))
    have X4 := hid (X3.out.below hb4 (by omega)); have F4 := hid (F3.out.below hb4 (by omega))
    obtain ⟨y4, yf4⟩ : JbCells W4 w3.heap.size 0 ((r2 : Int), q, 0) ∧ JbFree W4 w3.heap.size 0 := by rw [hW4]; exact jalloc3 w3 ((r2 : Int), q, 0)
    have Y4 := hid y4
    have YF4 := hid yf4
    have HW4 := hid hW4
    have HQ := hid hq
    have hhb : b < w3.heap.size := by omega
    clear hb4 hW4 hq y4 yf4 C3 G3 X3 F3
    go_wp2_with fail
    rw [← HQ.out, ← HW4.out]
    replace C4 := hid C4.out.drew
    replace G4 := hid (only_drew G4.out)
    replace Y4 : Hid (JbCells W4.drew w3.heap.size 0 ((r2 : Int), q, 0)) := Y4.out
    replace YF4 : Hid (JbFree W4.drew w3.heap.size 0) := YF4.out
    replace X4 : Hid (JbCells W4.drew w.heap.size 0 (0, 0, 0)) := X4.out
    replace F4 : Hid (JbFree W4.drew w.heap.size 0) := F4.out
    have hsd : W4.drew.heap.size = w3.heap.size + 1 := hs4
    obtain ⟨y0, y1, y2⟩ := Y4.out
    obtain ⟨z0, z1, z2⟩ := YF4.out
    go_region_held3 (fun w' => w'.cell? ⟨w3.heap.size, 0, none⟩ = some (.int .i64 r2) ∧ w'.cell? ⟨w3.heap.size, 1, none⟩ = some (.int .i64 q))
      (first | (refine ⟨?_, ?_⟩ <;> assumption) | exact ⟨(World.cell?_setCell_other _ _ _ _ (by simp)).trans (by assumption), (World.cell?_setCell_other _ _ _ _ (by simp)).trans (by assumption)⟩ | go_keep)
      (first | (go_at_call 23; refine (pick_any B b _ _ _ (by first | exact CX.out | exact C4.out) (by omega) (by omega)).mono ?_; rintro e w5 ⟨r5, hr5, rfl, c5, g5⟩; have y0 := (JbCells.only (by first | exact YX.out | exact Y4.out) g5 (by omega)).1; have y1 := (JbCells.only (by first | exact YX.out | exact Y4.out) g5 (by omega)).2.1; have y2 := (JbCells.only (by first | exact YX.out | exact Y4.out) g5 (by omega)).2.2; have YX := hid (JbCells.only (by first | exact YX.out | exact Y4.out) g5 (by omega)); have hsX : w3.heap.size < w5.heap.size := lt_of_cell y0; have YFX := hid (JbFree.only (by first | exact YFX.out | exact YF4.out) (by have := YX.out.lt; omega) g5 (by omega)); have z2 := YFX.out.2.2; have GX := hid (only_trans (by first | exact GX.out | exact G4.out) g5); have X5 := hid (JbCells.only (by first | exact X5.out | exact X4.out) g5 (by omega)); have F5 := hid (JbFree.only (by first | exact F5.out | exact F4.out) (by omega) g5 (by omega)); have CX := hid c5; clear c5 g5))
    all_goals
      obtain ⟨x0, x1, x2⟩ := X5.out
      obtain ⟨f0, f1, f2⟩ := F5.out
      have hne : w.heap.size ≠ w3.heap.size := by omega
      go_wp2
    all_goals
      refine job_ret _ _ _ (z := (0, 0, 0)) ?_ rfl ⟨⟨_, _, _, rfl⟩, ?_, ?_⟩
    · exact X5.out.of_block ((Below.heap_setCell _ _ _ _ (by show w.heap.size ≠ w3.heap.size; omega)).trans (Below.heap_setCell _ _ _ _ (by show w.heap.size ≠ w3.heap.size; omega)))
    · exact (CX.out.mono (by omega)).under hbw (by omega) (jbelow_put3 (((Below.refl w.heap.size w5).setCell (p := ⟨w3.heap.size, 2, none⟩) (by show w.heap.size ≤ w3.heap.size; omega) _).setCell (p := ⟨w3.heap.size, 2, none⟩) (by show w.heap.size ≤ w3.heap.size; omega) _) (Nat.le_refl _) 0 (_, _, _))
    · exact only_then GX.out (jbelow_put3 (((Below.refl w.heap.size w5).setCell (p := ⟨w3.heap.size, 2, none⟩) (by show w.heap.size ≤ w3.heap.size; omega) _).setCell (p := ⟨w3.heap.size, 2, none⟩) (by show w.heap.size ≤ w3.heap.size; omega) _) (Nat.le_refl _) 0 (_, _, _))
    · exact X5.out.of_block (Below.heap_setCell _ _ _ _ (by show w.heap.size ≠ w3.heap.size; omega))
    · exact (CX.out.mono (by omega)).under hbw (by omega) (jbelow_put3 ((Below.refl w.heap.size w5).setCell (p := ⟨w3.heap.size, 2, none⟩) (by show w.heap.size ≤ w3.heap.size; omega) _) (Nat.le_refl _) 0 (_, _, _))
    · exact only_then GX.out (jbelow_put3 ((Below.refl w.heap.size w5).setCell (p := ⟨w3.heap.size, 2, none⟩) (by show w.heap.size ≤ w3.heap.size; omega) _) (Nat.le_refl _) 0 (_, _, _))
  · go_wp2_with fail
    refine (among_any B b (N + 2) w1.heap.size 4 4 _ (C1.out.below ((Below.refl _ _).alloc (Nat.le_refl _) _)) (by omega) (by omega) (lit_new w1 [-1, 0, 23, 24] _) (by omega) (by omega)).mono ?_
    rintro e w2 ⟨z1, rfl, c2, g2⟩
    have hs2 : w1.heap.size + 1 ≤ w2.heap.size := by have := g2.size; simpa using this
    have e3 : w2.heap[w.heap.size]? = w1.heap[w.heap.size]? := (g2.block w.heap.size (by simp; omega) (by intro e; cases e; omega)).trans (Below.heap_alloc _ _ _ (by omega))
    have X2 := hid (X1.out.of_block e3); have F2 := hid (F1.out.of_block e3); have C2 := hid (c2.mono (show _ ≤ N + 4 by omega)); have G2 := hid (only_trans (only_trans G1.out (World.grownBy_alloc _ _ _)) g2); clear c2 g2 C1 G1 X1 F1 e3
    go_wp2_with fail
    refine (among_any B b (N + 4) w2.heap.size 4 4 _ (C2.out.below ((Below.refl _ _).alloc (Nat.le_refl _) _)) (by omega) (by omega) (lit_new w2 [0, 1, 6, 7] _) (by omega) (by omega)).mono ?_
    rintro e w3 ⟨z2, rfl, c2, g2⟩
    have hs3 : w2.heap.size + 1 ≤ w3.heap.size := by have := g2.size; simpa using this
    have e3 : w3.heap[w.heap.size]? = w2.heap[w.heap.size]? := (g2.block w.heap.size (by simp; omega) (by intro e; cases e; omega)).trans (Below.heap_alloc _ _ _ (by omega))
    have X3 := hid (X2.out.of_block e3); have F3 := hid (F2.out.of_block e3); have C3 := hid (c2.mono (show _ ≤ N + 6 by omega)); have G3 := hid (only_trans (only_trans G2.out (World.grownBy_alloc _ _ _)) g2); clear c2 g2 C2 G2 X2 F2 e3
    go_wp2_with fail
    refine (among_any B b (N + 6) w3.heap.size 3 3 _ (C3.out.below ((Below.refl _ _).alloc (Nat.le_refl _) _)) (by omega) (by omega) (lit_new w3 [0, 24, 25] _) (by omega) (by omega)).mono ?_
    rintro e w4 ⟨z3, rfl, c2, g2⟩
    have hs4 : w3.heap.size + 1 ≤ w4.heap.size := by have := g2.size; simpa using this
    have e3 : w4.heap[w.heap.size]? = w3.heap[w.heap.size]? := (g2.block w.heap.size (by simp; omega) (by intro e; cases e; omega)).trans (Below.heap_alloc _ _ _ (by omega))
    have X4 := hid (X3.out.of_block e3); have F4 := hid (F3.out.of_block e3); have C4 := hid (c2.mono (show _ ≤ N + 8 by omega)); have G4 := hid (only_trans (only_trans G3.out (World.grownBy_alloc _ _ _)) g2); clear c2 g2 C3 G3 X3 F3 e3
    obtain ⟨x0, x1, x2⟩ := X4.out
    obtain ⟨f0, f1, f2⟩ := F4.out
    go_wp2
    refine job_ret _ _ _ (z := (0, 0, 0)) X4.out rfl ⟨(_, _, _), rfl, ?_, ?_⟩
    · exact (C4.out.mono (by omega)).under hbw (by omega) (jbelow_put3 (Below.refl w.heap.size w4) (Nat.le_refl _) 0 (_, _, _))
    · exact only_then G4.out (jbelow_put3 (Below.refl w.heap.size w4) (Nat.le_refl _) 0 (_, _, _))
set_option maxHeartbeats 2000000 in
theorem jobs_any (B b N : Nat) (w : World) (h : Cur B w b N) (hN : N ≤ 1152921504606840000) :
    Calls Try.prog 24 #[.pointer (some ⟨b, 0, none⟩)] w fun e w' => ∃ v, e = .returned v ∧ ∃ xs : List JbEl, xs.length ≤ 42 ∧ w'.ownsRow w.heap.size 34 3 v xs.length (jbflat xs) ∧ Cur B w' b (N + 900) ∧ w.grownBy w' (some b) := by
  obtain ⟨i0, hi, hz0, hz1, hz2⟩ := info_parts info_job
  have hbw := h.lt'
  have hBb := h.ge'
  have H := hid h
  clear h
  go_enter Try.func24, Try.ntmps24
  go_wp2_with fail
  refine (pick_any B b N 6 w H.out (by omega) (by omega)).mono ?_
  rintro e w1 ⟨r1, hr1, rfl, c1, g1⟩
  have C1 := hid c1; have G1 := hid g1; clear c1 g1 H
  go_wp2_with fail
  refine (one_any B b (N + 2) 20 w1 C1.out (by omega) (by omega)).mono ?_
  rintro e w2 ⟨t2, rfl, c2, g2⟩
  have C2 := hid c2; have G2 := hid (only_trans G1.out g2); clear c2 g2 C1 G1
  cases t2
  case' true =>
    go_wp2_with fail
    refine (pick_any B b (N + 2 + 2) 2 w2 C2.out (by omega) (by omega)).mono ?_
    rintro e w3 ⟨r3, hr3, rfl, c3, g3⟩
    have C3 := hid (c3.mono (show N + 2 + 2 + 2 ≤ N + 6 by omega)); have G3 := hid (only_trans G2.out g3); clear c3 g3 C2 G2
    obtain ⟨m, hm, hm42⟩ : ∃ m : Nat, (8 + (r3 : Int)) = (m : Int) ∧ m ≤ 42 := ⟨8 + r3, by omega, by omega⟩
  case' false =>
    have C3 := hid (C2.out.mono (show N + 2 + 2 ≤ N + 6 by omega)); have G3 := G2; clear C2 G2
    obtain ⟨w3, hw3⟩ : ∃ w3, w3 = w2 := ⟨_, rfl⟩
    subst hw3
    obtain ⟨m, hm, hm42⟩ : ∃ m : Nat, (r1 : Int) = (m : Int) ∧ m ≤ 42 := ⟨r1, by omega, by omega⟩
  all_goals
    have HM := hid hm
    clear hm
    go_wp2
    go_loopw [3, 4] (fun l n wr => ∃ (k j : Nat) (xs : List JbEl), n = .int .i64 j ∧ k + j ≤ 42 ∧ xs.length = k ∧ wr.ownsRow w.heap.size 34 3 l k (jbflat xs) ∧ Cur B wr b (N + 6 + 20 * k) ∧ w.grownBy wr (some b)) (fun _ n _ => (intOf n).toNat)
    case atStart => exact ⟨0, m, [], by rw [HM.out], by omega, rfl, World.ownsRow_nil _ _ _ _, C3.out, G3.out⟩
    case round =>
      obtain ⟨k, j, xs, rfl, hkj, hxk, hown, hcur, hgr⟩ := hrel
      have HO := hid hown; have HC := hid hcur; have HG := hid hgr
      have HXK := hid hxk
      clear hown hcur hgr hxk
      by_cases hj : 0 < j
      · go_wp2_with fail
        refine (job_any B b (N + 6 + 20 * k) wr HC.out (by omega)).mono ?_
        rintro e w5 ⟨x, rfl, c5, g5⟩
        have O5 := hid (jbowns_only HO.out g5 hbw); have C5 := hid c5; have G5 := hid (only_trans HG.out g5); clear c5 g5 HO HC HG
        have hs5 : w.heap.size ≤ w5.heap.size := G5.out.size
        go_wp2_with (at_builtin; refine wpList_append_own _ rfl _ _ 23 rfl w.heap.size 34 i0 (.agg #[.int .i64 0, .int .i64 0, .int .i64 0]) 3 24 Try.underlying23 hi hz0 hz1 hz2 rfl (by decide) _ k (jbflat xs) rfl (O5.out.alloc _) ⟨w5.heap.size, 0, none⟩ 1 1 (jbflat [x]) rfl rfl (jbone_at ⟨by simp, by simp, by simp⟩) (jbflat_one _) (by unfold maxLen; omega) (by omega) (by simp; omega) ?_)
        intro v6 w6 hown6 hgr6 _
        have B6 : Hid (Below w.heap.size w5 w6) := ((Below.refl w.heap.size w5).alloc hs5 _).grown hgr6 (by simp; omega) (jbowns_block O5.out)
        rw [← jbflat_append] at hown6
        have O6 := hid hown6
        have C6 := hid (C5.out.under hbw (by omega) B6.out)
        have G6 := hid (only_then G5.out B6.out)
        clear hown6 hgr6 C5 G5 O5
        go_wp2
        go_roundw
        case rel => exact ⟨k + 1, j - 1, xs ++ [x], by go_num, by omega, by rw [List.length_append, HXK.out]; rfl, O6.out, C6.out.mono (by omega), G6.out⟩
        case measure => simp [intOf]; omega
      · obtain rfl : j = 0 := by omega
        have hl42 : Hid (xs.length ≤ 42) := by show _ ≤ _; rw [HXK.out]; omega
        rw [← HXK.out] at HO
        go_wp2
        go_ret
        exact ⟨_, rfl, xs, hl42.out, HO.out, HC.out.mono (by omega), HG.out⟩
theorem drawGoodJ_any (v : Value) (w : World) (h : CodeOk w.heap.size w v) :
    Calls Try.prog 15 #[v] w fun e w' => ∃ u, e = .returned u ∧ ∃ xs : List JbEl, xs.length ≤ 42 ∧ JbOwn w.heap.size w'.heap.size w' u xs ∧ Below w.heap.size w w' := by
  have H := hid (cur_new w v h)
  obtain ⟨a, len, cap, rfl, hlen, hx⟩ := h
  clear hlen hx
  go_enter Try.func15, Try.ntmps15
  go_wp2_with fail
  refine (jobs_any w.heap.size w.heap.size 0 _ H.out (by omega)).mono ?_
  rintro e w1 ⟨u1, rfl, xs, hx, o1, c1, g1⟩
  have O1 := hid (jbowns_mono o1 (show w.heap.size ≤ _ by simp)); have G1 := hid g1; clear o1 c1 g1 H
  go_wp2
  go_ret
  exact ⟨_, rfl, xs, hx, JbOwn.of_owns O1.out (by omega), ((Below.refl _ _).alloc (Nat.le_refl _) _).trans (only_below G1.out (Nat.le_refl _) (by simp))⟩
end Go.Proofs.Ytobkockikpgcoab
