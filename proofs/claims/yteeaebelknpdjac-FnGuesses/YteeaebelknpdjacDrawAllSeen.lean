/-
  The cursor's many seen: whatever they are, few, in memory of their own; of old memory the cursor alone is written.
-/
import Derived.Test.YteeaebelknpdjacDrawSeen
import Derived.Test.YteeaebelknpdjacKSeenApp
namespace Go.Proofs.Yteeaebelknpdjac
open Go.RowKit

theorem seowns_only {w w' : World} {base : Nat} {t : TypeId} {size n b : Nat} {v : Value} {cs : List Value} (h : w.ownsRow base t size v n cs) (hg : w.grownBy w' (some b)) (hb : b < base) : w'.ownsRow base t size v n cs := by
  obtain ⟨h1, h2⟩ := h
  refine ⟨h1, ?_⟩
  rcases h2 with h | ⟨g, cap, cur, hv, hgb, hh, h⟩
  · exact .inl h
  · refine .inr ⟨g, cap, cur, hv, hgb, ?_, h⟩
    rw [hg.block g (Array.getElem?_eq_some_iff.1 hh).1 (by intro e; cases e; omega)]
    exact hh
set_option maxRecDepth 100000 in
set_option maxHeartbeats 8000000 in
theorem allSeen_any (B b N : Nat) (w : World) (h : Cur B w b N) (hN : N ≤ 1152921504606840000) :
    Calls Try.prog 117 #[.pointer (some ⟨b, 0, none⟩)] w fun e w' => ∃ v, e = .returned v ∧ ∃ xs : List SeEl, xs.length ≤ 62 ∧ SeOwn w.heap.size w'.heap.size w' v xs ∧ Cur B w' b (N + 900) ∧ w.grownBy w' (some b) := by
  obtain ⟨i0, hi, hz0, hz1, hz2⟩ := info_parts info_seen
  have hbw := cur9_lt h
  have hBb : B ≤ b := h.1
  have H := hid h
  clear h
  go_enter Try.func117, Try.ntmps117
  go_wp2_with fail
  refine (pick_any B b N 14 w H.out (by omega) (by omega)).mono ?_
  rintro e w1 ⟨r1, hr1, rfl, c1, g1⟩
  have C1 := hid c1; have G1 := hid g1; clear c1 g1 H
  go_wp2_with fail
  refine (one_any B b (N + 2) 20 w1 C1.out (by omega) (by omega)).mono ?_
  rintro e w2 ⟨t2, rfl, c2, g2⟩
  have C2 := hid c2; have G2 := hid (only_trans G1.out g2); clear c2 g2 C1 G1
  cases t2
  case' true =>
    go_wp2_with fail
    refine (pick_any B b (N + 2 + 2) 3 w2 C2.out (by omega) (by omega)).mono ?_
    rintro e w3 ⟨r3, hr3, rfl, c3, g3⟩
    have C3 := hid (c3.mono (show N + 2 + 2 + 2 ≤ N + 6 by omega)); have G3 := hid (only_trans G2.out g3); clear c3 g3 C2 G2
    obtain ⟨m, hm, hm62⟩ : ∃ m : Nat, (59 + (r3 : Int)) = (m : Int) ∧ m ≤ 62 := ⟨59 + r3, by omega, by omega⟩
  case' false =>
    have C3 := hid (C2.out.mono (show N + 2 + 2 ≤ N + 6 by omega)); have G3 := G2; clear C2 G2
    obtain ⟨w3, hw3⟩ : ∃ w3, w3 = w2 := ⟨_, rfl⟩
    subst hw3
    obtain ⟨m, hm, hm62⟩ : ∃ m : Nat, (r1 : Int) = (m : Int) ∧ m ≤ 62 := ⟨r1, by omega, by omega⟩
  all_goals
    have HM := hid hm
    clear hm
    go_wp2
    go_loopw [3, 4] (fun l n wr => ∃ (k j : Nat) (xs : List SeEl), n = .int .i64 j ∧ k + j ≤ 62 ∧ xs.length = k ∧ wr.ownsRow w.heap.size 74 3 l k (seflat xs) ∧ Cur B wr b (N + 6 + 10 * k) ∧ w.grownBy wr (some b)) (fun _ n _ => (intOf n).toNat)
    case atStart => exact ⟨0, m, [], by rw [HM.out], by omega, rfl, World.ownsRow_nil _ _ _ _, C3.out, G3.out⟩
    case round =>
      obtain ⟨k, j, xs, rfl, hkj, hxk, hown, hcur, hgr⟩ := hrel
      have HO := hid hown; have HC := hid hcur; have HG := hid hgr
      have HXK := hid hxk
      clear hown hcur hgr hxk
      by_cases hj : 0 < j
      · go_wp2_with fail
        refine (seen_any B b (N + 6 + 10 * k) wr HC.out (by omega)).mono ?_
        rintro e w4 ⟨x, rfl, c4, g4⟩
        have O4 := hid (seowns_only HO.out g4 hbw); have C4 := hid c4; have G4 := hid (only_trans HG.out g4); clear c4 g4 HO HC HG
        have hs4 : w.heap.size ≤ w4.heap.size := G4.out.size
        go_wp2_with (at_builtin; refine wpList_append_own _ rfl _ _ 131 rfl w.heap.size 74 i0 (.agg #[.int .i64 0, .bool false, .bool false]) 3 16 Try.underlying131 hi hz0 hz1 hz2 rfl (by decide) _ k (seflat xs) rfl (O4.out.alloc _) ⟨w4.heap.size, 0, none⟩ 1 1 (seflat [x]) rfl rfl (seone_at ⟨by simp, by simp, by simp⟩) (seflat_one _) (by unfold maxLen; omega) (by omega) (by simp; omega) ?_)
        intro v6 w6 hown6 hgr6 _
        have B6 : Hid (Below w.heap.size w4 w6) := ((Below.refl w.heap.size w4).alloc hs4 _).grown hgr6 (by simp; omega) (seowns_block O4.out)
        rw [← seflat_append] at hown6
        have O6 := hid hown6
        have C6 := hid (C4.out.under hbw (by omega) B6.out)
        have G6 := hid (only_then G4.out B6.out)
        clear hown6 hgr6 C4 G4 O4
        go_wp2
        go_roundw
        case rel => exact ⟨k + 1, j - 1, xs ++ [x], by go_num, by omega, by rw [List.length_append, HXK.out]; rfl, O6.out, C6.out.mono (by omega), G6.out⟩
        case measure => simp [intOf]; omega
      · obtain rfl : j = 0 := by omega
        have hl62 : Hid (xs.length ≤ 62) := by show _ ≤ _; rw [HXK.out]; omega
        have HS := hid (SeOwn.of_owns HO.out (by rw [HXK.out]; omega))
        go_wp2
        go_ret
        exact ⟨_, rfl, xs, hl62.out, HS.out, HC.out.mono (by omega), HG.out⟩
end Go.Proofs.Yteeaebelknpdjac
