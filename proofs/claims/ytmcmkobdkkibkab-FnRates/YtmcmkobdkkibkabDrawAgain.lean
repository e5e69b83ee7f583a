/-
  The cursor's tasks that come again: whatever they are, few, in memory of their own; of old memory the cursor alone is written.
-/
import Derived.Test.YtmcmkobdkkibkabDraw
import Derived.Test.YtmcmkobdkkibkabKAgainApp
import Derived.Deep.RegionHeld3
namespace Go.Proofs.Ytmcmkobdkkibkab
open Go.RowKit

theorem agowns_only {w w' : World} {base : Nat} {t : TypeId} {size n b : Nat} {v : Value} {cs : List Value} (h : w.ownsRow base t size v n cs) (hg : w.grownBy w' (some b)) (hb : b < base) : w'.ownsRow base t size v n cs := by
  obtain ⟨h1, h2⟩ := h
  refine ⟨h1, ?_⟩
  rcases h2 with h | ⟨g, cap, cur, hv, hgb, hh, h⟩
  · exact .inl h
  · refine .inr ⟨g, cap, cur, hv, hgb, ?_, h⟩
    rw [hg.block g (Array.getElem?_eq_some_iff.1 hh).1 (by intro e; cases e; omega)]
    exact hh
def lst6 (x y : Int) : Int := if x < y then x else y
theorem least6_any (x y : Int) (w : World) : Calls Try.prog 124 #[.int .i64 x, .int .i64 y] w fun e w' => e = .returned (.int .i64 (lst6 x y)) ∧ w' = w := by
  by_cases h : x < y
  · have hr : Hid (lst6 x y = x) := by show _ = _; unfold lst6; rw [if_pos h]
    go_enter Try.func124, Try.ntmps124
    go_wp2
    go_ret
    exact ⟨by rw [hr.out]; rfl, rfl⟩
  · have hr : Hid (lst6 x y = y) := by show _ = _; unfold lst6; rw [if_neg h]
    go_enter Try.func124, Try.ntmps124
    go_wp2
    go_ret
    exact ⟨by rw [hr.out]; rfl, rfl⟩
theorem agowns_stay {w w' : World} {base : Nat} {t : TypeId} {size n : Nat} {v : Value} {cs : List Value} (h : w.ownsRow base t size v n cs) (e : ∀ g, v.ownBlock = some g → w'.heap[g]? = w.heap[g]?) : w'.ownsRow base t size v n cs := by
  obtain ⟨h1, h2⟩ := h
  refine ⟨h1, ?_⟩
  rcases h2 with h | ⟨g, cap, cur, rfl, hg, hh, hr⟩
  · exact .inl h
  · exact .inr ⟨g, cap, cur, rfl, hg, by rw [e g rfl]; exact hh, hr⟩
theorem agcur_lt {B b N : Nat} {w : World} (h : Cur B w b N) : b < w.heap.size := by
  obtain ⟨_, _, v, f, at_, sd, hr, _⟩ := h
  exact hr.lt
set_option maxRecDepth 100000 in
set_option maxHeartbeats 4000000 in
theorem again_any (B b N : Nat) (w : World) (h : Cur B w b N) (hN : N ≤ 1152921504606840000) :
    Calls Try.prog 87 #[.pointer (some ⟨b, 0, none⟩)] w fun e w' => ∃ v, e = .returned v ∧ ∃ xs : List AgEl, xs.length ≤ 42 ∧ AgOwn w.heap.size w'.heap.size w' v xs ∧ Cur B w' b (N + 900) ∧ w.grownBy w' (some b) := by
  obtain ⟨i0, hi, hz0, hz1, hz2⟩ := info_parts info_again
  have hbw := agcur_lt h
  have hBb : B ≤ b := h.1
  have H := hid h
  clear h
  go_enter Try.func87, Try.ntmps87
  go_wp2_with fail
  refine (pick_any B b N 5 w H.out (by omega) (by omega)).mono ?_
  rintro e w1 ⟨r1, hr1, rfl, c1, g1⟩
  have C1 := hid c1; have G1 := hid g1; clear c1 g1 H
  go_wp2_with fail
  refine (one_any B b (N + 2) 20 w1 C1.out (by omega) (by omega)).mono ?_
  rintro e w2 ⟨t2, rfl, c2, g2⟩
  have C2 := hid c2; have G2 := hid (only_trans G1.out g2); clear c2 g2 C1 G1
  cases t2
  case' true =>
    go_wp2_with fail
    refine (pick_any B b (N + 2 + 2) 2 w2 C2.out (by omega) (by omega)).mono ?_
    rintro e w3 ⟨r3, hr3, rfl, c3, g3⟩
    have C3 := hid (c3.mono (show N + 2 + 2 + 2 ≤ N + 6 by omega)); have G3 := hid (only_trans G2.out g3); clear c3 g3 C2 G2
    obtain ⟨m, hm, hm42⟩ : ∃ m : Nat, (5 + (r3 : Int)) = (m : Int) ∧ m ≤ 42 := ⟨5 + r3, by omega, by omega⟩
  case' false =>
    have C3 := hid (C2.out.mono (show N + 2 + 2 ≤ N + 6 by omega)); have G3 := G2; clear C2 G2
    obtain ⟨w3, hw3⟩ : ∃ w3, w3 = w2 := ⟨_, rfl⟩
    subst hw3
    obtain ⟨m, hm, hm42⟩ : ∃ m : Nat, (r1 : Int) = (m : Int) ∧ m ≤ 42 := ⟨r1, by omega, by omega⟩
  all_goals
    have HM := hid hm
    clear hm
    go_wp2
    go_loopw [3, 4] (fun l n wr => ∃ (k j : Nat) (xs : List AgEl), n = .int .i64 j ∧ k + j ≤ 42 ∧ xs.length = k ∧ wr.ownsRow w.heap.size 64 2 l k (agflat xs) ∧ Cur B wr b (N + 6 + 4 * k) ∧ w.grownBy wr (some b)) (fun _ n _ => (intOf n).toNat)
    case atStart => exact ⟨0, m, [], by rw [HM.out], by omega, rfl, World.ownsRow_nil _ _ _ _, C3.out, G3.out⟩
    case round =>
      obtain ⟨k, j, xs, rfl, hkj, hxk, hown, hcur, hgr⟩ := hrel
      have HO := hid hown; have HC := hid hcur; have HG := hid hgr
      have HXK := hid hxk
      clear hown hcur hgr hxk
      by_cases hj : 0 < j
      · go_wp2_with fail
        refine (pick_any B b (N + 6 + 4 * k) 4 wr HC.out (by omega) (by omega)).mono ?_
        rintro e w4 ⟨r4, hr4, rfl, c4, g4⟩
        have O4 := hid (agowns_only HO.out g4 hbw); have C4 := hid c4; have G4 := hid (only_trans HG.out g4); clear c4 g4 HO HC HG
        obtain ⟨z4, hz4⟩ : ∃ z : Int, z = 1 + (r4 : Int) := ⟨_, rfl⟩
        have hw4 : IntKind.i64.wrap (1 + (r4 : Int)) = z4 := by rw [IntKind.wrap_i64]; omega
        have hz4b : 1 ≤ z4 ∧ z4 ≤ 5 := by omega
        have hs4 : w.heap.size ≤ w4.heap.size := G4.out.size
        have hb4 : b < w4.heap.size := by have := agcur_lt C4.out; omega
        obtain ⟨W, hW⟩ : ∃ W, W = w4.alloc (.cells #[.int .i64 z4, .int .i64 0] 64) := ⟨_, rfl⟩
        have hbW : Below w4.heap.size w4 W := by rw [hW]; exact (Below.refl _ _).alloc (Nat.le_refl _) _
        have CW := hid (C4.out.below hbW).drew
        have GW := hid (only_drew (only_then G4.out (hbW.mono hs4)))
        have OW : Hid (W.drew.ownsRow w.heap.size 64 2 u3 k (agflat xs)) := by show World.ownsRow _ _ _ _ _ _ _; rw [hW]; exact (O4.out.alloc _).drew
        have y0 : W.drew.cell? ⟨w4.heap.size, 0, none⟩ = some (.int .i64 z4) := by rw [hW]; exact cell_of_row _ _ _ _ _ (0, 0) (heap_alloc_new w4 _)
        have y1 : W.drew.cell? ⟨w4.heap.size, 1, none⟩ = some (.int .i64 0) := by rw [hW]; exact cell_of_row _ _ _ _ _ (0, 0) (heap_alloc_new w4 _)
        have f1 : W.drew.frozen? ⟨w4.heap.size, 1, none⟩ = false := by rw [hW]; exact frozen_of_row _ _ _ _ _ (heap_alloc_new w4 _)
        have hsW : W.drew.heap.size = w4.heap.size + 1 := by rw [hW]; simp
        have HW := hid hW
        have Y0 := hid y0; have Y1 := hid y1; have F1 := hid f1; have HSW := hid hsW
        have HLt := hid O4.out.lt
        clear hz4 hW hbW O4 C4 G4
        go_wp2_with fail
        rw [← HW.out]
        go_region_held3 (fun w' => w'.cell? ⟨w4.heap.size, 0, none⟩ = some (.int .i64 z4))
          (first | assumption | exact (World.cell?_setCell_other _ _ _ _ (by simp)).trans (by assumption) | go_keep)
          (first
            | (go_at_call 124; refine (least6_any _ _ _).mono ?_; rintro e w' ⟨rfl, hw⟩; obtain rfl := hw.symm)
            | (go_at_call 62; refine (pick_any B b _ 14 _ CW.out (by omega) (by omega)).mono ?_; rintro e w5 ⟨r5, hr5, rfl, c5, g5⟩; have x0 : w5.cell? ⟨w4.heap.size, 0, none⟩ = some (.int .i64 z4) := (World.cell?_of_block (g5.block w4.heap.size (by rw [HSW.out]; omega) (by intro e; cases e; omega))).trans Y0.out; have x1 : w5.cell? ⟨w4.heap.size, 1, none⟩ = some (.int .i64 0) := (World.cell?_of_block (g5.block w4.heap.size (by rw [HSW.out]; omega) (by intro e; cases e; omega))).trans Y1.out; have xf : w5.frozen? ⟨w4.heap.size, 1, none⟩ = false := (World.frozen?_of_block (g5.block w4.heap.size (by rw [HSW.out]; omega) (by intro e; cases e; omega))).trans F1.out; have O5 := hid (agowns_only OW.out g5 hbw); have C5 := hid c5; have G5 := hid (only_trans GW.out g5); have hs5 : w4.heap.size + 1 ≤ w5.heap.size := (by have h := g5.size; have h2 := HSW.out; omega); clear c5 g5))
        all_goals
          obtain ⟨z5, hz5⟩ : ∃ z : Int, z = lst6 40 (IntKind.i64.wrap (z4 + (r5 : Int))) := ⟨_, rfl⟩
          obtain ⟨W6, hW6⟩ : ∃ W6, W6 = w5.setCell ⟨w4.heap.size, 1, none⟩ (.int .i64 z5) := ⟨_, rfl⟩
          have e0 : W6.cell? ⟨w4.heap.size, 0, none⟩ = some (.int .i64 z4) := by rw [hW6, World.cell?_setCell_other _ _ _ _ (by simp)]; exact x0
          have e1 : W6.cell? ⟨w4.heap.size, 1, none⟩ = some (.int .i64 z5) := by rw [hW6]; exact World.cell?_setCell_same _ _ _ (u := .int .i64 0) x1
          have hs6 : W6.heap.size = w5.heap.size := by rw [hW6]; simp
          have B6a : Hid (Below w.heap.size w5 W6) := by rw [hW6]; exact (Below.refl w.heap.size w5).setCell (by show w.heap.size ≤ w4.heap.size; exact hs4) _
          have O6a : Hid (W6.ownsRow w.heap.size 64 2 u3 k (agflat xs)) := by
            refine agowns_stay O5.out fun g hg => ?_
            rw [hW6]
            exact Below.heap_setCell _ _ _ _ (by show g ≠ w4.heap.size; have := HLt.out g hg; omega)
          have HW6 := hid hW6
          have HZ5 := hid hz5
          have hs6' : w.heap.size ≤ W6.heap.size := by omega
          clear hz5 hW6 x0 x1 xf O5 hs6
          rw [← HZ5.out, ← HW6.out]
          go_wp2_with (at_builtin; refine wpList_append_own _ rfl _ _ 56 rfl w.heap.size 64 i0 (.agg #[.int .i64 0, .int .i64 0]) 2 16 Try.underlying56 hi hz0 hz1 hz2 rfl (by decide) _ k (agflat xs) rfl (O6a.out.alloc _) ⟨W6.heap.size, 0, none⟩ 1 1 (agflat [(z4, z5)]) rfl rfl (agone_at ⟨by simp, by simp⟩) (agflat_one _) (by unfold maxLen; omega) (by omega) (by simp; omega) ?_)
          intro v6 w6 hown6 hgr6 _
          have B6 : Hid (Below w.heap.size w5 w6) := (B6a.out.alloc hs6' _).grown hgr6 (by simp; omega) (agowns_block O6a.out)
          rw [← agflat_append] at hown6
          have O6 := hid hown6
          have C6 := hid (C5.out.under hbw (by omega) B6.out)
          have G6 := hid (only_then G5.out B6.out)
          clear hown6 hgr6 C5 G5 O6a
          go_wp2
          go_roundw
          case rel => exact ⟨k + 1, j - 1, xs ++ [(z4, z5)], by go_num, by omega, by rw [List.length_append, HXK.out]; rfl, O6.out, C6.out.mono (by omega), G6.out⟩
          case measure => simp [intOf]; omega
      · obtain rfl : j = 0 := by omega
        have hl42 : Hid (xs.length ≤ 42) := by show _ ≤ _; rw [HXK.out]; omega
        have HS := hid (AgOwn.of_owns HO.out (by rw [HXK.out]; omega))
        by_cases hk0 : k = 0
        · subst hk0
          have HX0 : Hid (xs = []) := List.eq_nil_of_length_eq_zero HXK.out
          obtain ⟨au, cu, rfl⟩ : ∃ a c, u3 = .slice a 0 c := by
            rcases HO.out.2 with ⟨h, _⟩ | ⟨g, c, _, h, _⟩
            · exact ⟨_, _, h⟩
            · exact ⟨_, _, h⟩
          clear HO
          go_wp2
          go_ret
          exact ⟨_, rfl, xs, hl42.out, HS.out, HC.out.mono (by omega), HG.out⟩
        · obtain ⟨g, cg, rfl⟩ : ∃ g c, u3 = .slice (some ⟨g, 0, none⟩) k c := by
            rcases HO.out.2 with ⟨_, h⟩ | ⟨g, c, _, h, _⟩
            · exact absurd h hk0
            · exact ⟨g, c, h⟩
          have hpos : (0 : Int) < (k : Int) := by omega
          have hposn : 0 < k := by omega
          clear HO hk0
          go_wp2_with fail
          refine (one_any B b _ 30 wr HC.out (by omega) (by omega)).mono ?_
          rintro e w8 ⟨t8, rfl, c8, g8⟩
          have S8 : Hid (AgOwn w.heap.size wr.heap.size w8 (.slice (some ⟨g, 0, none⟩) k cg) xs) := HS.out.at fun g' h1 h2 _ => g8.block g' h2 (by intro e; cases e; omega)
          have C8 := hid (c8.mono (show _ ≤ N + 300 by omega)); have G8 := hid (only_trans HG.out g8)
          have hs8 := g8.size
          clear c8 g8 HC HG HS
          cases t8
          · go_wp2
            go_ret
            exact ⟨_, rfl, xs, hl42.out, S8.out.mono (Nat.le_refl _) hs8, C8.out.mono (by omega), G8.out⟩
          · have hsw : w.heap.size ≤ w8.heap.size := G8.out.size
            go_wp2_with fail
            refine (among_any B b (N + 300) w8.heap.size 3 3 _ (C8.out.below ((Below.refl _ _).alloc (Nat.le_refl _) _)) (by omega) (by omega) (lit_new w8 [0, 10, 11] _) (by omega) (by omega)).mono ?_
            rintro e w9 ⟨z9, rfl, c9, g9⟩
            have S9 : Hid (AgOwn w.heap.size wr.heap.size w9 (.slice (some ⟨g, 0, none⟩) k cg) xs) := S8.out.at fun g' h1 h2 h3 => (g9.block g' (by simp; omega) (by intro e; cases e; omega)).trans (Below.heap_alloc _ _ _ h3)
            have C9 := hid c9; have G9 := hid (only_trans (only_trans G8.out (World.grownBy_alloc _ _ _)) g9)
            have hs9 : w8.heap.size + 1 ≤ w9.heap.size := by have := g9.size; simpa using this
            clear c9 g9 C8 G8 S8
            go_wp2_with fail
            refine (among_any B b _ w9.heap.size 3 3 _ (C9.out.below ((Below.refl _ _).alloc (Nat.le_refl _) _)) (by omega) (by omega) (lit_new w9 [5, 40, 41] _) (by omega) (by omega)).mono ?_
            rintro e w10 ⟨z10, rfl, c10, g10⟩
            have S10 : Hid (AgOwn w.heap.size wr.heap.size w10 (.slice (some ⟨g, 0, none⟩) k cg) xs) := S9.out.at fun g' h1 h2 h3 => (g10.block g' (by simp; omega) (by intro e; cases e; omega)).trans (Below.heap_alloc _ _ _ h3)
            have C10 := hid c10; have G10 := hid (only_trans (only_trans G9.out (World.grownBy_alloc _ _ _)) g10)
            have hs10 : w9.heap.size + 1 ≤ w10.heap.size := by have := g10.size; simpa using this
            clear c10 g10 C9 G9 S9
            have hset := AgOwn.set (xs := xs) (by rw [HXK.out]; exact S10.out) 0 (z9, z10) (by rw [HXK.out]; exact hposn)
            rw [HXK.out] at hset
            obtain ⟨hset, hgg, ⟨f0, f1⟩, d0, d1⟩ := hset
            have HSET := hid hset
            simp only [Nat.zero_mul, Nat.zero_add] at HSET f0 f1 d0 d1
            have B10 : Hid (Below w.heap.size w10 ((w10.setCell ⟨g, 0, none⟩ (.int .i64 z9)).setCell ⟨g, 1, none⟩ (.int .i64 z10))) := ((Below.refl w.heap.size w10).setCell hgg.1 _).setCell hgg.1 _
            clear hset
            go_wp2
            go_ret
            exact ⟨_, rfl, xs.set 0 (z9, z10), by rw [List.length_set]; exact hl42.out, HSET.out.mono (Nat.le_refl _) (by simp [World.setCell]; omega), (C10.out.mono (by omega)).under hbw (by omega) B10.out, only_then G10.out B10.out⟩
end Go.Proofs.Ytmcmkobdkkibkab
