/-
  The cursor's tasks, spec.DrawGoodTasks: whatever they are, few, in memory of their own; of old memory the cursor alone is written.
-/
import Derived.Test.YtflhlinkolbbiaeDraw
import Derived.Test.YtflhlinkolbbiaeKWayApp
namespace Go.Proofs.Ytflhlinkolbbiae
open Go.RowKit

theorem wyowns_only {w w' : World} {base : Nat} {t : TypeId} {size n b : Nat} {v : Value} {cs : List Value} (h : w.ownsRow base t size v n cs) (hg : w.grownBy w' (some b)) (hb : b < base) : w'.ownsRow base t size v n cs := by
  obtain ⟨h1, h2⟩ := h
  refine ⟨h1, ?_⟩
  rcases h2 with h | ⟨g, cap, cur, hv, hgb, hh, h⟩
  · exact .inl h
  · refine .inr ⟨g, cap, cur, hv, hgb, ?_, h⟩
    rw [hg.block g (Array.getElem?_eq_some_iff.1 hh).1 (by intro e; cases e; omega)]
    exact hh
theorem wycur_lt {B b N : Nat} {w : World} (h : Cur B w b N) : b < w.heap.size := by
  obtain ⟨_, _, v, f, at_, sd, hr, _⟩ := h
  exact hr.lt
set_option maxRecDepth 100000 in
set_option maxHeartbeats 4000000 in
theorem ways_any (B b N : Nat) (w : World) (h : Cur B w b N) (hN : N ≤ 1152921504606840000) :
    Calls Try.prog 86 #[.pointer (some ⟨b, 0, none⟩)] w fun e w' => ∃ v, e = .returned v ∧ ∃ xs : List WyEl, (1 ≤ xs.length ∧ xs.length ≤ 4) ∧ WyOwn w.heap.size w'.heap.size w' v xs ∧ Cur B w' b (N + 900) ∧ w.grownBy w' (some b) := by
  obtain ⟨i0, hi, hz0, hz1, hz2⟩ := info_parts info_way
  have hbw := wycur_lt h
  have hBb : B ≤ b := h.1
  have H := hid h
  clear h
  go_enter Try.func86, Try.ntmps86
  go_wp2_with fail
  refine (pick_any B b N 4 w H.out (by omega) (by omega)).mono ?_
  rintro e w3 ⟨r1, hr1, rfl, c1, g1⟩
  have C3 := hid (c1.mono (show N + 2 ≤ N + 6 by omega)); have G3 := hid g1; clear c1 g1 H
  obtain ⟨m, hm, hm1, hm4⟩ : ∃ m : Nat, (1 + (r1 : Int)) = (m : Int) ∧ 1 ≤ m ∧ m ≤ 4 := ⟨1 + r1, by omega, by omega, by omega⟩
  have hwm : IntKind.i64.wrap (1 + (r1 : Int)) = (m : Int) := by rw [IntKind.wrap_i64]; omega
  clear hm
  go_wp2
  go_loopw [3, 4] (fun l n wr => ∃ (k j : Nat) (xs : List WyEl), n = .int .i64 j ∧ k + j ≤ 4 ∧ 1 ≤ k + j ∧ xs.length = k ∧ wr.ownsRow w.heap.size 108 2 l k (wyflat xs) ∧ Cur B wr b (N + 6 + 4 * k) ∧ w.grownBy wr (some b)) (fun _ n _ => (intOf n).toNat)
  case atStart => exact ⟨0, m, [], rfl, by omega, by omega, rfl, World.ownsRow_nil _ _ _ _, C3.out, G3.out⟩
  case round =>
    obtain ⟨k, j, xs, rfl, hkj, hkj1, hxk, hown, hcur, hgr⟩ := hrel
    have HO := hid hown; have HC := hid hcur; have HG := hid hgr
    have HXK := hid hxk
    clear hown hcur hgr hxk
    by_cases hj : 0 < j
    · go_wp2_with fail
      refine (pick_any B b (N + 6 + 4 * k) 30 wr HC.out (by omega) (by omega)).mono ?_
      rintro e w4 ⟨r4, hr4, rfl, c4, g4⟩
      have O4 := hid (wyowns_only HO.out g4 hbw); have C4 := hid c4; have G4 := hid (only_trans HG.out g4); clear c4 g4 HO HC HG
      go_wp2_with fail
      refine (pick_any B b _ 6 w4 C4.out (by omega) (by omega)).mono ?_
      rintro e w5 ⟨r5, hr5, rfl, c5, g5⟩
      have O5 := hid (wyowns_only O4.out g5 hbw); have C5 := hid c5; have G5 := hid (only_trans G4.out g5); clear c5 g5 O4 C4 G4
      obtain ⟨z5, hz5⟩ : ∃ z : Int, z = 1 + (r5 : Int) := ⟨_, rfl⟩
      have hw5 : IntKind.i64.wrap (1 + (r5 : Int)) = z5 := by rw [IntKind.wrap_i64]; omega
      clear hz5
      have hs5 : w.heap.size ≤ w5.heap.size := G5.out.size
      go_wp2_with (at_builtin; refine wpList_append_own _ rfl _ _ 58 rfl w.heap.size 108 i0 (.agg #[.int .i64 0, .int .i64 0]) 2 16 Try.underlying58 hi hz0 hz1 hz2 rfl (by decide) _ k (wyflat xs) rfl (O5.out.alloc _) ⟨w5.heap.size, 0, none⟩ 1 1 (wyflat [((r4 : Int), z5)]) rfl rfl (wyone_at ⟨by simp, by simp⟩) (wyflat_one _) (by unfold maxLen; omega) (by omega) (by simp; omega) ?_)
      intro v6 w6 hown6 hgr6 _
      have B6 : Hid (Below w.heap.size w5 w6) := ((Below.refl w.heap.size w5).alloc hs5 _).grown hgr6 (by simp; omega) (wyowns_block O5.out)
      rw [← wyflat_append] at hown6
      have O6 := hid hown6
      have C6 := hid (C5.out.under hbw (by omega) B6.out)
      have G6 := hid (only_then G5.out B6.out)
      clear hown6 hgr6 C5 G5 O5
      go_wp2
      go_roundw
      case rel => exact ⟨k + 1, j - 1, xs ++ [((r4 : Int), z5)], by go_num, by omega, by omega, by rw [List.length_append, HXK.out]; rfl, O6.out, C6.out.mono (by omega), G6.out⟩
      case measure => simp [intOf]; omega
    · obtain rfl : j = 0 := by omega
      have hl4 : Hid (1 ≤ xs.length ∧ xs.length ≤ 4) := by rw [HXK.out]; exact ⟨by omega, by omega⟩
      have HS := hid (WyOwn.of_owns HO.out (by rw [HXK.out]; omega))
      have hk0 : ¬ k = 0 := by omega
      obtain ⟨g, cg, rfl⟩ : ∃ g c, u3 = .slice (some ⟨g, 0, none⟩) k c := by
        rcases HO.out.2 with ⟨_, h⟩ | ⟨g, c, _, h, _⟩
        · exact absurd h hk0
        · exact ⟨g, c, h⟩
      have hpos : (0 : Int) < (k : Int) := by omega
      have hposn : 0 < k := by omega
      clear HO hk0
      go_wp2_with fail
      refine (one_any B b _ 30 wr HC.out (by omega) (by omega)).mono ?_
      rintro e w8 ⟨t8, rfl, c8, g8⟩
      have S8 : Hid (WyOwn w.heap.size wr.heap.size w8 (.slice (some ⟨g, 0, none⟩) k cg) xs) := HS.out.at fun g' h1 h2 _ => g8.block g' h2 (by intro e; cases e; omega)
      have C8 := hid (c8.mono (show _ ≤ N + 300 by omega)); have G8 := hid (only_trans HG.out g8)
      have hs8 := g8.size
      clear c8 g8 HC HG HS
      cases t8
      · go_wp2
        go_ret
        exact ⟨_, rfl, xs, hl4.out, S8.out.mono (Nat.le_refl _) hs8, C8.out.mono (by omega), G8.out⟩
      · have hsw : w.heap.size ≤ w8.heap.size := G8.out.size
        go_wp2_with fail
        refine (among_any B b (N + 300) w8.heap.size 3 3 _ (C8.out.below ((Below.refl _ _).alloc (Nat.le_refl _) _)) (by omega) (by omega) (lit_new w8 [-1, 100, 101] _) (by omega) (by omega)).mono ?_
        rintro e w9 ⟨z9, rfl, c9, g9⟩
        have S9 : Hid (WyOwn w.heap.size wr.heap.size w9 (.slice (some ⟨g, 0, none⟩) k cg) xs) := S8.out.at fun g' h1 h2 h3 => (g9.block g' (by simp; omega) (by intro e; cases e; omega)).trans (Below.heap_alloc _ _ _ h3)
        have C9 := hid c9; have G9 := hid (only_trans (only_trans G8.out (World.grownBy_alloc _ _ _)) g9)
        have hs9 : w8.heap.size + 1 ≤ w9.heap.size := by have := g9.size; simpa using this
        clear c9 g9 C8 G8 S8
        go_wp2_with fail
        refine (among_any B b _ w9.heap.size 4 4 _ (C9.out.below ((Below.refl _ _).alloc (Nat.le_refl _) _)) (by omega) (by omega) (lit_new w9 [0, 1, 20, 21] _) (by omega) (by omega)).mono ?_
        rintro e w10 ⟨z10, rfl, c10, g10⟩
        have S10 : Hid (WyOwn w.heap.size wr.heap.size w10 (.slice (some ⟨g, 0, none⟩) k cg) xs) := S9.out.at fun g' h1 h2 h3 => (g10.block g' (by simp; omega) (by intro e; cases e; omega)).trans (Below.heap_alloc _ _ _ h3)
        have C10 := hid c10; have G10 := hid (only_trans (only_trans G9.out (World.grownBy_alloc _ _ _)) g10)
        have hs10 : w9.heap.size + 1 ≤ w10.heap.size := by have := g10.size; simpa using this
        clear c10 g10 C9 G9 S9
        have hset := WyOwn.set (xs := xs) (by rw [HXK.out]; exact S10.out) 0 (z9, z10) (by rw [HXK.out]; exact hposn)
        rw [HXK.out] at hset
        obtain ⟨hset, hgg, ⟨f0, f1⟩, d0, d1⟩ := hset
        have HSET := hid hset
        simp only [Nat.zero_mul, Nat.zero_add] at HSET f0 f1 d0 d1
        have B10 : Hid (Below w.heap.size w10 ((w10.setCell ⟨g, 0, none⟩ (.int .i64 z9)).setCell ⟨g, 1, none⟩ (.int .i64 z10))) := ((Below.refl w.heap.size w10).setCell hgg.1 _).setCell hgg.1 _
        clear hset
        go_wp2
        go_ret
        exact ⟨_, rfl, xs.set 0 (z9, z10), by rw [List.length_set]; exact hl4.out, HSET.out.mono (Nat.le_refl _) (by simp [World.setCell]; omega), (C10.out.mono (by omega)).under hbw (by omega) B10.out, only_then G10.out B10.out⟩
end Go.Proofs.Ytflhlinkolbbiae
