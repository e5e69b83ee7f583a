/-
  The cursor's spans and span: whatever they are, few, in memory of their own; of old memory the cursor alone is written.
-/
import Derived.Test.YtobkockikpgcoaaDoorDraw
import Derived.Test.YtobkockikpgcoaaDoorPairAt
import Derived.Test.YtobkockikpgcoaaDoorXBox
namespace Go.Proofs.YtobkockikpgcoaaDoor
open Go.RowKit
set_option maxRecDepth 100000

theorem owns_only {w w' : World} {base : Nat} {t : TypeId} {size n b : Nat} {v : Value} {cs : List Value} (h : w.ownsRow base t size v n cs) (hg : w.grownBy w' (some b)) (hb : b < base) : w'.ownsRow base t size v n cs := by
  obtain ⟨h1, h2⟩ := h
  refine ⟨h1, ?_⟩
  rcases h2 with h | ⟨g, cap, cur, hv, hgb, hh, h⟩
  · exact .inl h
  · refine .inr ⟨g, cap, cur, hv, hgb, ?_, h⟩
    rw [hg.block g (Array.getElem?_eq_some_iff.1 hh).1 (by intro e; cases e; omega)]
    exact hh
theorem SOwn.only {base b : Nat} {w w' : World} {v : Value} {xs : List Sp} (h : SOwn base w v xs) (hg : w.grownBy w' (some b)) (hb : b < base) : SOwn base w' v xs := by
  obtain ⟨hl, h⟩ := h
  rcases h with h | ⟨g, cap, rfl, hgb, hf⟩
  · exact ⟨hl, .inl h⟩
  · refine ⟨hl, .inr ⟨g, cap, rfl, hgb, fun i hi => ?_⟩⟩
    have e := hg.block g (lt_of_cell (hf i hi).1.1) (by intro e; cases e; omega)
    refine ⟨⟨?_, ?_⟩, ?_, ?_⟩
    · rw [World.cell?_of_block (a := ⟨g, i * 2, none⟩) e]; exact (hf i hi).1.1
    · rw [World.cell?_of_block (a := ⟨g, i * 2 + 1, none⟩) e]; exact (hf i hi).1.2
    · rw [World.frozen?_of_block (a := ⟨g, i * 2, none⟩) e]; exact (hf i hi).2.1
    · rw [World.frozen?_of_block (a := ⟨g, i * 2 + 1, none⟩) e]; exact (hf i hi).2.2
theorem Cur.lt {B b N : Nat} {w : World} (h : Cur B w b N) : b < w.heap.size := by
  obtain ⟨_, _, v, f, at_, sd, hr, _⟩ := h
  exact hr.lt
theorem Cur.ge {B b N : Nat} {w : World} (h : Cur B w b N) : B ≤ b := h.1
/-- The end of the first one is written. -/
theorem SOwn.setTo0 {base g cap : Nat} {w : World} {x : Sp} {xs : List Sp} (h : SOwn base w (.slice (some ⟨g, 0, none⟩) (xs.length + 1) cap) (x :: xs)) :
    (∀ z, SOwn base (w.setCell ⟨g, 1, none⟩ (.int .i64 z)) (.slice (some ⟨g, 0, none⟩) (xs.length + 1) cap) ((x.1, z) :: xs)) ∧ base ≤ g ∧ w.frozen? ⟨g, 1, none⟩ = false ∧ w.cell? ⟨g, 1, none⟩ = some (.int .i64 x.2) := by
  obtain ⟨hl, h⟩ := h
  rcases h with ⟨a, _, h⟩ | ⟨g', cap', e, hg, hf⟩
  · cases h
  · cases e
    have h0 := hf 0 (by simp)
    refine ⟨fun z => ⟨by simpa using hl, .inr ⟨g, cap, by simp, by simpa using hg, fun j hj => ?_⟩⟩, hg.1, by simpa using h0.2.2, by simpa using h0.1.2⟩
    have hj' : j < (x :: xs).length := by simpa using hj
    refine ⟨⟨?_, ?_⟩, by simpa using (hf j hj').2⟩
    · rw [World.cell?_setCell_other _ _ _ _ (by simp <;> omega), (hf j hj').1.1]
      rcases j with _ | j <;> simp
    · rcases j with _ | j
      · rw [Nat.zero_mul, Nat.zero_add, World.cell?_setCell_same _ _ _ (u := .int .i64 x.2) (by simpa using h0.1.2)]
        simp
      · rw [World.cell?_setCell_other _ _ _ _ (by simp <;> omega), (hf (j + 1) hj').1.2]
        simp

set_option maxHeartbeats 4000000 in
theorem spans_any (B b N : Nat) (w : World) (h : Cur B w b N) (hN : N ≤ 1152921504606846000) :
    Calls Tryd.prog 70 #[.pointer (some ⟨b, 0, none⟩)] w fun e w' => ∃ v, e = .returned v ∧ ∃ xs : List Sp, xs.length ≤ 30 ∧ SOwn w.heap.size w' v xs ∧ Cur B w' b (N + 200) ∧ w.grownBy w' (some b) := by
  obtain ⟨i0, hi, hz0, hz1, hz2⟩ := info_parts info_span
  have hbw := h.lt
  have hBb := h.ge
  have H := hid h
  clear h
  go_enter Tryd.func70, Tryd.ntmps70
  go_wp2_with fail
  refine (pick_any B b N 6 w H.out (by omega) (by omega)).mono ?_
  rintro e w1 ⟨r1, hr1, rfl, c1, g1⟩
  have C1 := hid c1; have G1 := hid g1; clear c1 g1 H
  go_wp2_with fail
  refine (one_any B b (N + 2) 20 w1 C1.out (by omega) (by omega)).mono ?_
  rintro e w2 ⟨t2, rfl, c2, g2⟩
  have C2 := hid c2; have G2 := hid (only_trans G1.out g2); clear c2 g2 C1 G1
  cases t2
  case' true =>
    go_wp2_with fail
    refine (pick_any B b (N + 2 + 2) 3 w2 C2.out (by omega) (by omega)).mono ?_
    rintro e w3 ⟨r3, hr3, rfl, c3, g3⟩
    have C3 := hid (c3.mono (show N + 2 + 2 + 2 ≤ N + 6 by omega)); have G3 := hid (only_trans G2.out g3); clear c3 g3 C2 G2
    obtain ⟨m, hm, hm22⟩ : ∃ m : Nat, (19 + (r3 : Int)) = (m : Int) ∧ m ≤ 22 := ⟨19 + r3, by omega, by omega⟩
  case' false =>
    have C3 := hid (C2.out.mono (show N + 2 + 2 ≤ N + 6 by omega)); have G3 := G2; clear C2 G2
    obtain ⟨w3, hw3⟩ : ∃ w3, w3 = w2 := ⟨_, rfl⟩
    subst hw3
    obtain ⟨m, hm, hm22⟩ : ∃ m : Nat, (r1 : Int) = (m : Int) ∧ m ≤ 22 := ⟨r1, by omega, by omega⟩
  all_goals
    have HM := hid hm
    clear hm
    go_wp2_with fail
    refine (pick_any B b (N + 6) 4 w3 C3.out (by omega) (by omega)).mono ?_
    rintro e w4 ⟨r4, hr4, rfl, c4, g4⟩
    have C4 := hid c4; have G4 := hid (only_trans G3.out g4); clear c4 g4 C3 G3
    go_wp2
    go_loopw [3, 4, 5] (fun l n at' wr => ∃ (k j : Nat) (t : Int) (xs : List Sp), n = .int .i64 j ∧ at' = .int .i64 t ∧ 0 ≤ t ∧ t ≤ 4 + 12 * k ∧ k + j ≤ 22 ∧ xs.length = k ∧ wr.ownsRow w.heap.size 47 2 l k (flat xs) ∧ Cur B wr b (N + 8 + 4 * k) ∧ w.grownBy wr (some b)) (fun _ n _ _ => (intOf n).toNat)
    case atStart => exact ⟨0, m, r4, [], by rw [HM.out], rfl, by omega, by omega, by omega, rfl, owns_nil _ _ _, C4.out, G4.out⟩
    case round =>
      obtain ⟨k, j, t, xs, rfl, rfl, ht0, ht1, hkj, hxk, hown, hcur, hgr⟩ := hrel
      have HO := hid hown; have HC := hid hcur; have HG := hid hgr
      clear hown hcur hgr
      by_cases hj : 0 < j
      · go_wp2_with fail
        refine (pick_any B b (N + 8 + 4 * k) 5 wr HC.out (by omega) (by omega)).mono ?_
        rintro e w5 ⟨r5, hr5, rfl, c5, g5⟩
        have O5 := hid (owns_only HO.out g5 hbw); have C5 := hid c5; have G5 := hid (only_trans HG.out g5); clear c5 g5 HO HC HG
        have hs5 : w.heap.size ≤ w5.heap.size := G5.out.size
        go_wp2_with (at_builtin; refine wpList_append_own _ rfl _ _ 51 rfl w.heap.size 47 i0 (.agg #[.int .i64 0, .int .i64 0]) 2 16 Tryd.underlying51 hi hz0 hz1 hz2 rfl (by decide) _ k (flat xs) rfl (O5.out.alloc _) ⟨w5.heap.size, 0, none⟩ 1 1 (flat [(t, t + 1 + r5)]) rfl rfl (pair_at (by simp) (by simp)) (flat_one _) (by unfold maxLen; omega) (by omega) (by simp; omega) ?_)
        intro v6 w6 hown6 hgr6 _
        have B6 : Hid (Below w.heap.size w5 w6) := ((Below.refl w.heap.size w5).alloc hs5 _).grown hgr6 (by simp; omega) (owns_block O5.out)
        have O6 : Hid (w6.ownsRow w.heap.size 47 2 v6 (k + 1) (flat (xs ++ [(t, t + 1 + r5)]))) := by
          have := hown6
          rw [← flat_append] at this
          exact this
        have C6 := hid (C5.out.under hbw (by omega) B6.out)
        have G6 := hid (only_then G5.out B6.out)
        clear hown6 hgr6 C5 G5 O5
        go_wp2_with fail
        refine (pick_any B b (N + 8 + 4 * k + 2) 4 w6 C6.out (by omega) (by omega)).mono ?_
        rintro e w7 ⟨r7, hr7, rfl, c7, g7⟩
        have O7 := hid (owns_only O6.out g7 hbw); have C7 := hid c7; have G7 := hid (only_trans G6.out g7); clear c7 g7 C6 G6 O6
        go_wp2
        go_roundw
        case rel => exact ⟨k + 1, j - 1, t + 1 + r5 + 1 + r7, _, by go_num, by go_num, by omega, by omega, by omega, by simp [hxk], O7.out, C7.out.mono (by omega), G7.out⟩
        case measure => simp [intOf]; omega
      · obtain rfl : j = 0 := by omega
        have hl30 : xs.length ≤ 30 := by omega
        cases xs with
        | nil =>
          obtain rfl : k = 0 := by simpa using hxk.symm
          have HS := hid (SOwn.of_owns HO.out (by simp))
          rcases HO.out.2 with ⟨rfl, _⟩ | ⟨g, cap, cur, rfl, _⟩
          all_goals
            go_wp2
            go_ret
            exact ⟨_, rfl, [], by simp, HS.out, HC.out.mono (by omega), HG.out⟩
        | cons x xs =>
          have HS := hid (SOwn.of_owns HO.out (by omega))
          obtain ⟨g, cap, rfl⟩ : ∃ g cap, u3 = .slice (some ⟨g, 0, none⟩) (xs.length + 1) cap := by
            rcases HO.out.2 with ⟨_, h⟩ | ⟨g, cap, cur, h, _⟩
            · rw [h] at hxk; simp at hxk
            · exact ⟨g, cap, by rw [h, ← hxk]; rfl⟩
          clear HO
          go_wp2_with fail
          refine (one_any B b (N + 8 + 4 * k) 30 wr HC.out (by omega) (by omega)).mono ?_
          rintro e w8 ⟨t8, rfl, c8, g8⟩
          have S8 : Hid (SOwn w.heap.size w8 (.slice (some ⟨g, 0, none⟩) (xs.length + 1) cap) (x :: xs)) := HS.out.only g8 hbw
          have C8 := hid (c8.mono (show _ ≤ N + 200 by omega)); have G8 := hid (only_trans HG.out g8)
          clear c8 g8 HC HG HS
          cases t8
          · go_wp2
            go_ret
            exact ⟨_, rfl, _, hl30, S8.out, C8.out, G8.out⟩
          · obtain ⟨hset, hg8, f8, d8⟩ := SOwn.setTo0 S8.out
            have HSET := hid hset
            clear hset
            go_wp2
            go_ret
            exact ⟨_, rfl, _, by simpa using hl30, HSET.out _, C8.out.under hbw (by omega) ((Below.refl w.heap.size w8).setCell hg8 _), only_then G8.out ((Below.refl _ _).setCell hg8 _)⟩

set_option maxHeartbeats 2000000 in
theorem span_any (B b N : Nat) (w : World) (h : Cur B w b N) (hN : N ≤ 1152921504606846000) :
    Calls Tryd.prog 60 #[.pointer (some ⟨b, 0, none⟩)] w fun e w' => ∃ p q : Int, e = .returned (.agg #[.int .i64 p, .int .i64 q]) ∧ Cur B w' b (N + 10) ∧ w.grownBy w' (some b) := by
  have hbw := h.lt
  have hBb := h.ge
  have H := hid (h.below ((Below.refl _ _).alloc (Nat.le_refl _) (.cells #[.int .i64 0, .int .i64 0] 47)))
  clear h
  go_enter Tryd.func60, Tryd.ntmps60
  go_wp2_with fail
  refine (one_any B b N 30 _ H.out (by omega) (by omega)).mono ?_
  rintro e w1 ⟨t1, rfl, c1, g1⟩
  have G1 : Hid (w.grownBy w1 (some b)) := only_trans (only_of_below ((Below.refl _ _).alloc (Nat.le_refl _) _)) g1
  have hs1 : w.heap.size + 1 ≤ w1.heap.size := by have := g1.size; simpa using this
  have X1 := hid ((XBox.new w 0 0 _).only g1 (by omega))
  have C1 := hid c1
  clear c1 g1 H
  cases t1
  · go_wp2_with fail
    refine (pick_any B b (N + 2) 30 w1 C1.out (by omega) (by omega)).mono ?_
    rintro e w2 ⟨r2, hr2, rfl, c2, g2⟩
    have X2 := hid (X1.out.only g2 (by omega)); have C2 := hid c2; have G2 := hid (only_trans G1.out g2); clear c2 g2 C1 G1 X1
    go_wp2_with fail
    refine (pick_any B b (N + 2 + 2) 8 w2 C2.out (by omega) (by omega)).mono ?_
    rintro e w3 ⟨r3, hr3, rfl, c3, g3⟩
    obtain ⟨⟨d0, d1⟩, f0, f1⟩ := X2.out.only g3 (by omega)
    have C3 := hid c3; have G3 := hid (only_trans G2.out g3); clear c3 g3 C2 G2 X2
    have e0 : ∀ z, (w3.setCell ⟨w.heap.size, 0, none⟩ z).cell? ⟨w.heap.size, 0, none⟩ = some z := fun z => World.cell?_setCell_same _ _ _ d0
    have e1 : ∀ z y, ((w3.setCell ⟨w.heap.size, 0, none⟩ z).setCell ⟨w.heap.size, 1, none⟩ y).cell? ⟨w.heap.size, 1, none⟩ = some y := fun z y => World.cell?_setCell_same _ _ _ (by rw [World.cell?_setCell_other _ _ _ _ (by simp)]; exact d1)
    go_wp2
    exact bodyPost_ret (v := .agg #[.int .i64 r2, .int .i64 (r2 + 1 + r3)]) (by simp [results, Tryd.results60, go_sem, e0, e1]) rfl ⟨_, _, rfl, (C3.out.mono (by omega)).under hbw (by omega) (((Below.refl w.heap.size w3).setCell (Nat.le_refl _) _).setCell (Nat.le_refl _) _), only_then G3.out (((Below.refl w.heap.size w3).setCell (Nat.le_refl _) _).setCell (Nat.le_refl _) _)⟩
  · go_wp2_with fail
    refine (among_any B b (N + 2) w1.heap.size 3 3 _ (C1.out.below ((Below.refl _ _).alloc (Nat.le_refl _) _)) (by omega) (by omega) (lit_new w1 [-1, 5, 999999] _) (by omega) (by omega)).mono ?_
    rintro e w2 ⟨z2, rfl, c2, g2⟩
    have hs2 : w1.heap.size + 1 ≤ w2.heap.size := by have := g2.size; simpa using this
    have X2 := hid ((X1.out.below ((Below.refl _ _).alloc (by omega) _)).only g2 (by omega)); have C2 := hid c2; have G2 := hid (only_trans (only_trans G1.out (World.grownBy_alloc _ _ _)) g2); clear c2 g2 C1 G1 X1
    go_wp2_with fail
    refine (among_any B b (N + 2 + 2) w2.heap.size 4 4 _ (C2.out.below ((Below.refl _ _).alloc (Nat.le_refl _) _)) (by omega) (by omega) (lit_new w2 [0, 5, 1000000, 1000001] _) (by omega) (by omega)).mono ?_
    rintro e w3 ⟨z3, rfl, c3, g3⟩
    obtain ⟨⟨d0, d1⟩, f0, f1⟩ := (X2.out.below ((Below.refl _ _).alloc (by omega) _)).only g3 (by omega)
    have C3 := hid c3; have G3 := hid (only_trans (only_trans G2.out (World.grownBy_alloc _ _ _)) g3); clear c3 g3 C2 G2 X2
    have e0 : ∀ z, (w3.setCell ⟨w.heap.size, 0, none⟩ z).cell? ⟨w.heap.size, 0, none⟩ = some z := fun z => World.cell?_setCell_same _ _ _ d0
    have e1 : ∀ z y, ((w3.setCell ⟨w.heap.size, 0, none⟩ z).setCell ⟨w.heap.size, 1, none⟩ y).cell? ⟨w.heap.size, 1, none⟩ = some y := fun z y => World.cell?_setCell_same _ _ _ (by rw [World.cell?_setCell_other _ _ _ _ (by simp)]; exact d1)
    go_wp2
    exact bodyPost_ret (v := .agg #[.int .i64 z2, .int .i64 z3]) (by simp [results, Tryd.results60, go_sem, e0, e1]) rfl ⟨_, _, rfl, (C3.out.mono (by omega)).under hbw (by omega) (((Below.refl w.heap.size w3).setCell (Nat.le_refl _) _).setCell (Nat.le_refl _) _), only_then G3.out (((Below.refl w.heap.size w3).setCell (Nat.le_refl _) _).setCell (Nat.le_refl _) _)⟩
end Go.Proofs.YtobkockikpgcoaaDoor
