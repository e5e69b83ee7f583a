/-
  The cursor's work and works, spec.DrawMakeHeap, spec.DrawLessWork: whatever they are, few, in memory of their own; of old memory the cursor alone is written.
-/
import Derived.Test.YtndbdioignmaeaaDraw
import Derived.Test.YtndbdioignmaeaaWkApp2
import Derived.Test.YtndbdioignmaeaaWkForm
namespace Go.Proofs.Ytndbdioignmaeaa
open Go.RowKit

theorem WkCells.only {w w' : World} {H b o : Nat} {x : WkEl} (h : WkCells w H o x) (hg : w.grownBy w' (some b)) (hb : H ≠ b) : WkCells w' H o x := h.of_block (hg.block H h.lt (by intro e; cases e; omega))
theorem WkFree.only {w w' : World} {H b o : Nat} (h : WkFree w H o) (hl : H < w.heap.size) (hg : w.grownBy w' (some b)) (hb : H ≠ b) : WkFree w' H o := h.of_block (hg.block H hl (by intro e; cases e; omega))
theorem wkowns_only {w w' : World} {base : Nat} {t : TypeId} {size n b : Nat} {v : Value} {cs : List Value} (h : w.ownsRow base t size v n cs) (hg : w.grownBy w' (some b)) (hb : b < base) : w'.ownsRow base t size v n cs := by
  obtain ⟨h1, h2⟩ := h
  refine ⟨h1, ?_⟩
  rcases h2 with h | ⟨g, cap, cur, hv, hgb, hh, h⟩
  · exact .inl h
  · refine .inr ⟨g, cap, cur, hv, hgb, ?_, h⟩
    rw [hg.block g (Array.getElem?_eq_some_iff.1 hh).1 (by intro e; cases e; omega)]
    exact hh
theorem Cur.lt' {B b N : Nat} {w : World} (h : Cur B w b N) : b < w.heap.size := by
  obtain ⟨_, _, v, f, at_, sd, hr, _⟩ := h
  exact hr.lt
theorem Cur.ge' {B b N : Nat} {w : World} (h : Cur B w b N) : B ≤ b := h.1

set_option maxHeartbeats 2000000 in
theorem work_any (B b N : Nat) (w : World) (h : Cur B w b N) (hN : N ≤ 1152921504606846000) :
    Calls Try.prog 68 #[.pointer (some ⟨b, 0, none⟩)] w fun e w' => ∃ x : WkEl, e = .returned (.agg #[.int .i64 x.1, .int .i64 x.2.1, .int .i64 x.2.2]) ∧ Cur B w' b (N + 10) ∧ w.grownBy w' (some b) := by
  have hbw := h.lt'
  have hBb := h.ge'
  have H := hid (h.below ((Below.refl _ _).alloc (Nat.le_refl _) (.cells #[.int .i64 0, .int .i64 0, .int .i64 0] 48)))
  clear h
  obtain ⟨hx, hf⟩ := alloc3 w (0, 0, 0)
  have HX := hid hx
  have HF := hid hf
  clear hx hf
  go_enter Try.func68, Try.ntmps68
  go_wp2_with fail
  refine (one_any B b N 40 _ H.out (by omega) (by omega)).mono ?_
  rintro e w1 ⟨t1, rfl, c1, g1⟩
  have G1 : Hid (w.grownBy w1 (some b)) := only_trans (only_of_below ((Below.refl _ _).alloc (Nat.le_refl _) _)) g1
  have hs1 : w.heap.size + 1 ≤ w1.heap.size := by have := g1.size; simpa using this
  have X1 := hid (HX.out.only g1 (by omega)); have F1 := hid (HF.out.only (by simp) g1 (by omega))
  have C1 := hid c1
  clear c1 g1 H HX HF
  cases t1
  · go_wp2_with fail
    refine (pick_any B b (N + 2) 9 w1 C1.out (by omega) (by omega)).mono ?_
    rintro e w2 ⟨r2, hr2, rfl, c2, g2⟩
    have hs2 := g2.size
    have X2 := hid (X1.out.only g2 (by omega)); have F2 := hid (F1.out.only (by omega) g2 (by omega)); have C2 := hid c2; have G2 := hid (only_trans G1.out g2); clear c2 g2 C1 G1 X1 F1
    go_wp2_with fail
    refine (pick_any B b (N + 2 + 2) 3 w2 C2.out (by omega) (by omega)).mono ?_
    rintro e w3 ⟨r3, hr3, rfl, c3, g3⟩
    have hs3 := g3.size
    have X3 := hid (X2.out.only g3 (by omega)); have F3 := hid (F2.out.only (by omega) g3 (by omega)); have C3 := hid c3; have G3 := hid (only_trans G2.out g3); clear c3 g3 C2 G2 X2 F2
    go_wp2_with fail
    refine (pick_any B b (N + 2 + 2 + 2) 20 w3 C3.out (by omega) (by omega)).mono ?_
    rintro e w4 ⟨r4, hr4, rfl, c4, g4⟩
    have hs4 := g4.size
    have X4 := hid (X3.out.only g4 (by omega)); have F4 := hid (F3.out.only (by omega) g4 (by omega)); have C4 := hid c4; have G4 := hid (only_trans G3.out g4); clear c4 g4 C3 G3 X3 F3
    obtain ⟨x0, x1, x2⟩ := X4.out
    obtain ⟨f0, f1, f2⟩ := F4.out
    go_wp2
    obtain ⟨e0, e1, e2⟩ := put3_same X4.out ((r2 : Int), (r3 : Int), (r4 : Int))
    exact bodyPost_ret (v := .agg #[.int .i64 r2, .int .i64 r3, .int .i64 r4]) (by simp [results, Try.results68, go_sem, e0, e1, e2]) rfl ⟨((r2 : Int), (r3 : Int), (r4 : Int)), rfl, (C4.out.mono (by omega)).under hbw (by omega) (below_put3 (Below.refl w.heap.size w4) (Nat.le_refl _) 0 ((r2 : Int), (r3 : Int), (r4 : Int))), only_then G4.out (below_put3 (Below.refl w.heap.size w4) (Nat.le_refl _) 0 ((r2 : Int), (r3 : Int), (r4 : Int)))⟩
  · go_wp2_with fail
    refine (among_any B b (N + 2) w1.heap.size 3 3 _ (C1.out.below ((Below.refl _ _).alloc (Nat.le_refl _) _)) (by omega) (by omega) (lit_new w1 [-1, 1000000, 1000001] _) (by omega) (by omega)).mono ?_
    rintro e w2 ⟨z2, rfl, c2, g2⟩
    have hs2 : w1.heap.size + 1 ≤ w2.heap.size := by have := g2.size; simpa using this
    have e3 : w2.heap[w.heap.size]? = w1.heap[w.heap.size]? := (g2.block w.heap.size (by simp; omega) (by intro e; cases e; omega)).trans (Below.heap_alloc _ _ _ (by omega))
    have X2 := hid (X1.out.of_block e3); have F2 := hid (F1.out.of_block e3); have C2 := hid c2; have G2 := hid (only_trans (only_trans G1.out (World.grownBy_alloc _ _ _)) g2); clear c2 g2 C1 G1 X1 F1 e3
    obtain ⟨x0, x1, x2⟩ := X2.out
    obtain ⟨f0, f1, f2⟩ := F2.out
    go_wp2
    obtain ⟨e0, e1, e2⟩ := put3_same X2.out (z2, 0, 0)
    exact bodyPost_ret (v := .agg #[.int .i64 z2, .int .i64 0, .int .i64 0]) (by simp [results, Try.results68, go_sem, e0, e1, e2]) rfl ⟨(z2, 0, 0), rfl, (C2.out.mono (by omega)).under hbw (by omega) (below_put3 (Below.refl w.heap.size w2) (Nat.le_refl _) 0 (z2, 0, 0)), only_then G2.out (below_put3 (Below.refl w.heap.size w2) (Nat.le_refl _) 0 (z2, 0, 0))⟩

set_option maxHeartbeats 2000000 in
theorem works_any (B b N : Nat) (w : World) (h : Cur B w b N) (hN : N ≤ 1152921504606840000) :
    Calls Try.prog 88 #[.pointer (some ⟨b, 0, none⟩)] w fun e w' => ∃ v, e = .returned v ∧ ∃ xs : List WkEl, xs.length ≤ 42 ∧ w'.ownsRow w.heap.size 48 3 v xs.length (wkflat xs) ∧ Cur B w' b (N + 600) ∧ w.grownBy w' (some b) := by
  obtain ⟨i0, hi, hz0, hz1, hz2⟩ := info_parts info_work
  have hbw := h.lt'
  have hBb := h.ge'
  have H := hid h
  clear h
  go_enter Try.func88, Try.ntmps88
  go_wp2_with fail
  refine (pick_any B b N 9 w H.out (by omega) (by omega)).mono ?_
  rintro e w1 ⟨r1, hr1, rfl, c1, g1⟩
  have C1 := hid c1; have G1 := hid g1; clear c1 g1 H
  go_wp2_with fail
  refine (one_any B b (N + 2) 20 w1 C1.out (by omega) (by omega)).mono ?_
  rintro e w2 ⟨t2, rfl, c2, g2⟩
  have C2 := hid c2; have G2 := hid (only_trans G1.out g2); clear c2 g2 C1 G1
  cases t2
  case' true =>
    go_wp2_with fail
    refine (pick_any B b (N + 2 + 2) 3 w2 C2.out (by omega) (by omega)).mono ?_
    rintro e w3 ⟨r3, hr3, rfl, c3, g3⟩
    have C3 := hid (c3.mono (show N + 2 + 2 + 2 ≤ N + 6 by omega)); have G3 := hid (only_trans G2.out g3); clear c3 g3 C2 G2
    obtain ⟨m, hm, hm42⟩ : ∃ m : Nat, (39 + (r3 : Int)) = (m : Int) ∧ m ≤ 42 := ⟨39 + r3, by omega, by omega⟩
  case' false =>
    have C3 := hid (C2.out.mono (show N + 2 + 2 ≤ N + 6 by omega)); have G3 := G2; clear C2 G2
    obtain ⟨w3, hw3⟩ : ∃ w3, w3 = w2 := ⟨_, rfl⟩
    subst hw3
    obtain ⟨m, hm, hm42⟩ : ∃ m : Nat, (r1 : Int) = (m : Int) ∧ m ≤ 42 := ⟨r1, by omega, by omega⟩
  all_goals
    have HM := hid hm
    clear hm
    go_wp2
    go_loopw [3, 4] (fun l n wr => ∃ (k j : Nat) (xs : List WkEl), n = .int .i64 j ∧ k + j ≤ 42 ∧ xs.length = k ∧ wr.ownsRow w.heap.size 48 3 l k (wkflat xs) ∧ Cur B wr b (N + 6 + 12 * k) ∧ w.grownBy wr (some b)) (fun _ n _ => (intOf n).toNat)
    case atStart => exact ⟨0, m, [], by rw [HM.out], by omega, rfl, World.ownsRow_nil _ _ _ _, C3.out, G3.out⟩
    case round =>
      obtain ⟨k, j, xs, rfl, hkj, hxk, hown, hcur, hgr⟩ := hrel
      have HO := hid hown; have HC := hid hcur; have HG := hid hgr
      have HXK := hid hxk
      clear hown hcur hgr hxk
      by_cases hj : 0 < j
      · go_wp2_with fail
        refine (work_any B b (N + 6 + 12 * k) wr HC.out (by omega)).mono ?_
        rintro e w5 ⟨x, rfl, c5, g5⟩
        have O5 := hid (wkowns_only HO.out g5 hbw); have C5 := hid c5; have G5 := hid (only_trans HG.out g5); clear c5 g5 HO HC HG
        have hs5 : w.heap.size ≤ w5.heap.size := G5.out.size
        go_wp2_with (at_builtin; refine wpList_append_own _ rfl _ _ 46 rfl w.heap.size 48 i0 (.agg #[.int .i64 0, .int .i64 0, .int .i64 0]) 3 24 Try.underlying46 hi hz0 hz1 hz2 rfl (by decide) _ k (wkflat xs) rfl (O5.out.alloc _) ⟨w5.heap.size, 0, none⟩ 1 1 (wkflat [x]) rfl rfl (wkone_at ⟨by simp, by simp, by simp⟩) (wkflat_one _) (by unfold maxLen; omega) (by omega) (by simp; omega) ?_)
        intro v6 w6 hown6 hgr6 _
        have B6 : Hid (Below w.heap.size w5 w6) := ((Below.refl w.heap.size w5).alloc hs5 _).grown hgr6 (by simp; omega) (wkowns_block O5.out)
        rw [← wkflat_append] at hown6
        have O6 := hid hown6
        have C6 := hid (C5.out.under hbw (by omega) B6.out)
        have G6 := hid (only_then G5.out B6.out)
        clear hown6 hgr6 C5 G5 O5
        go_wp2
        go_roundw
        case rel => exact ⟨k + 1, j - 1, xs ++ [x], by go_num, by omega, by rw [List.length_append, HXK.out]; rfl, O6.out, C6.out.mono (by omega), G6.out⟩
        case measure => simp [intOf]; omega
      · obtain rfl : j = 0 := by omega
        have hl42 : Hid (xs.length ≤ 42) := by show _ ≤ _; rw [HXK.out]; omega
        rw [← HXK.out] at HO
        go_wp2
        go_ret
        exact ⟨_, rfl, xs, hl42.out, HO.out, HC.out.mono (by omega), HG.out⟩
theorem drawMake_any (v : Value) (w : World) (h : CodeOk w.heap.size w v) :
    Calls Try.prog 39 #[v] w fun e w' => ∃ u, e = .returned u ∧ ∃ xs : List WkEl, xs.length ≤ 42 ∧ WkOwn w.heap.size w'.heap.size w' u xs ∧ Below w.heap.size w w' := by
  have H := hid (cur_new w v h)
  obtain ⟨a, len, cap, rfl, hlen, hx⟩ := h
  clear hlen hx
  go_enter Try.func39, Try.ntmps39
  go_wp2_with fail
  refine (works_any w.heap.size w.heap.size 0 _ H.out (by omega)).mono ?_
  rintro e w1 ⟨u1, rfl, xs, hx, o1, c1, g1⟩
  have O1 := hid (wkowns_mono o1 (show w.heap.size ≤ _ by simp)); have G1 := hid g1; clear o1 c1 g1 H
  go_wp2
  go_ret
  exact ⟨_, rfl, xs, hx, WkOwn.of_owns O1.out (by omega), ((Below.refl _ _).alloc (Nat.le_refl _) _).trans (only_below G1.out (Nat.le_refl _) (by simp))⟩
set_option maxHeartbeats 2000000 in
theorem drawLess_any (v : Value) (w : World) (h : CodeOk w.heap.size w v) :
    Calls Try.prog 46 #[v] w fun e w' => ∃ x y : WkEl, e = .returned (.tuple #[.agg #[.int .i64 x.1, .int .i64 x.2.1, .int .i64 x.2.2], .agg #[.int .i64 y.1, .int .i64 y.2.1, .int .i64 y.2.2]]) ∧ Below w.heap.size w w' := by
  obtain ⟨W, hW⟩ : ∃ W, W = (w.alloc (.cells #[.int .i64 0, .int .i64 0, .int .i64 0] 48)).alloc (.cells #[.int .i64 0, .int .i64 0, .int .i64 0] 48) := ⟨_, rfl⟩
  have bW : Below w.heap.size w W := by rw [hW]; go_grown
  have hsW : W.heap.size = w.heap.size + 2 := by rw [hW]; simp
  have XW : Hid (WkCells W w.heap.size 0 (0, 0, 0) ∧ WkFree W w.heap.size 0) := by
    obtain ⟨h1, h2⟩ := alloc3 w (0, 0, 0)
    have hb : Below (w.heap.size + 1) (w.alloc (.cells #[.int .i64 0, .int .i64 0, .int .i64 0] 48)) W := by rw [hW]; exact (Below.refl _ _).alloc (by simp) _
    exact ⟨h1.below hb (by omega), h2.below hb (by omega)⟩
  have YW : Hid (WkCells W (w.heap.size + 1) 0 (0, 0, 0) ∧ WkFree W (w.heap.size + 1) 0) := by
    obtain ⟨h1, h2⟩ := alloc3 (w.alloc (.cells #[.int .i64 0, .int .i64 0, .int .i64 0] 48)) (0, 0, 0)
    rw [hW]
    simp only [World.size_alloc] at h1 h2
    exact ⟨h1, h2⟩
  have h' : CodeOk W.heap.size W v := by
    obtain ⟨a, len, cap, rfl, hlen, hx⟩ := h
    refine ⟨a, len, cap, rfl, hlen, ?_⟩
    rcases hx with hx | ⟨cb, off, rfl, hlt, hc⟩
    · exact .inl hx
    · exact .inr ⟨cb, off, rfl, by omega, fun i hi => by
        obtain ⟨x, hx, hc⟩ := hc i hi
        exact ⟨x, hx, (bW.cell (p := ⟨cb, off + i, none⟩) hlt).trans hc⟩⟩
  have H := hid (cur_new W v h')
  have BW := hid bW
  have HWW := hid hW
  have H2 : Hid (Cur (w.heap.size + 1 + 1) (W.alloc (.cells #[v, .int .i64 0, .int .u64 0] 70)) (w.heap.size + 1 + 1) 0) := by
    have := H.out
    rw [hsW] at this
    exact this
  have HSZ := hid hsW
  obtain ⟨a, len, cap, rfl, hlen, hx⟩ := h
  clear hlen hx h' bW hW hsW H
  go_enter Try.func46, Try.ntmps46
  go_wp2_with fail
  rw [← HWW.out]
  refine (work_any (w.heap.size + 1 + 1) (w.heap.size + 1 + 1) 0 _ H2.out (by omega)).mono ?_
  rintro e w1 ⟨x, rfl, c1, g1⟩
  have C1 := hid c1
  have bA : Below W.heap.size W (W.alloc (.cells #[.slice a len cap, .int .i64 0, .int .u64 0] 70)) := (Below.refl _ _).alloc (Nat.le_refl _) _
  have hA : (W.alloc (.cells #[.slice a len cap, .int .i64 0, .int .u64 0] 70)).heap.size = w.heap.size + 3 := by simp [HSZ.out]
  have e1 : ∀ k, k < w.heap.size + 2 → w1.heap[k]? = W.heap[k]? := fun k hk => (g1.block k (by omega) (by intro e; cases e; omega)).trans (bA.block k (by rw [HSZ.out]; exact hk))
  have hs1 := g1.size
  rw [hA] at hs1
  have B1 : Hid (Below (w.heap.size + 2) W w1) := ⟨g1.os, g1.tape, g1.output, by rw [HSZ.out]; omega, fun k hk => e1 k hk⟩
  clear c1 g1 bA hA H2 e1
  go_wp2_with fail
  refine (work_any (w.heap.size + 1 + 1) (w.heap.size + 1 + 1) _ w1 C1.out (by omega)).mono ?_
  rintro e w2 ⟨y, rfl, c2, g2⟩
  have B2 : Hid (Below (w.heap.size + 2) W w2) := B1.out.trans (only_below g2 (Nat.le_refl _) (by omega))
  have X2 := hid (XW.out.1.below B2.out (by omega))
  have F2 := hid (XW.out.2.below B2.out (by omega))
  have Y2 := hid (YW.out.1.below B2.out (by omega))
  have E2 := hid (YW.out.2.below B2.out (by omega))
  obtain ⟨x0, x1, x2⟩ := X2.out
  obtain ⟨f0, f1, f2⟩ := F2.out
  obtain ⟨y0, y1, y2⟩ := Y2.out
  obtain ⟨k0, k1, k2⟩ := E2.out
  have hs2 := g2.size
  clear c2 g2 C1 B1
  go_wp2
  have z1 : WkCells (put3 w2 w.heap.size 0 x) (w.heap.size + 1) 0 (0, 0, 0) := Y2.out.of_block (by rw [Below.heap_setCell _ _ _ _ (by show w.heap.size + 1 ≠ w.heap.size; omega), Below.heap_setCell _ _ _ _ (by show w.heap.size + 1 ≠ w.heap.size; omega), Below.heap_setCell _ _ _ _ (by show w.heap.size + 1 ≠ w.heap.size; omega)])
  obtain ⟨e3, e4, e5⟩ := put3_same z1 y
  obtain ⟨e0, e1, e2⟩ : WkCells (put3 (put3 w2 w.heap.size 0 x) (w.heap.size + 1) 0 y) w.heap.size 0 x := (put3_same X2.out x).of_block (by rw [Below.heap_setCell _ _ _ _ (by show w.heap.size ≠ w.heap.size + 1; omega), Below.heap_setCell _ _ _ _ (by show w.heap.size ≠ w.heap.size + 1; omega), Below.heap_setCell _ _ _ _ (by show w.heap.size ≠ w.heap.size + 1; omega)])
  exact bodyPost_ret (v := .tuple #[.agg #[.int .i64 x.1, .int .i64 x.2.1, .int .i64 x.2.2], .agg #[.int .i64 y.1, .int .i64 y.2.1, .int .i64 y.2.2]]) (by simp [results, Try.results46, go_sem, e0, e1, e2, e3, e4, e5]) rfl ⟨x, y, rfl, below_put3 (below_put3 (BW.out.trans (B2.out.mono (by omega))) (Nat.le_refl _) 0 x) (by omega) 0 y⟩
end Go.Proofs.Ytndbdioignmaeaa
