/-
  The cursor's chores: few, in memory of their own, and some hands; of old memory the cursor alone is written.
-/
import Derived.Test.YtflhlinkolbbiaeDrawAm
import Derived.Test.YtflhlinkolbbiaeKAppN
import Derived.OwnWalk
namespace Go.Proofs.Ytflhlinkolbbiae
open Go.RowKit

theorem flowns_cur {w w' : World} {base : Nat} {t : TypeId} {n b : Nat} {v : Value} {cs : List Value} (h : w.ownsRow base t 1 v n cs) (hg : w.grownBy w' (some b)) (hb : b < base) : w'.ownsRow base t 1 v n cs :=
  owns_stay h fun g e => hg.block g (h.lt g e).2 (by intro e'; cases e'; have := (h.lt _ e).1; omega)
theorem flcur_lt {B b N : Nat} {w : World} (h : Cur B w b N) : b < w.heap.size := by
  obtain ⟨_, _, v, f, at_, sd, hr, _⟩ := h
  exact hr.lt
set_option maxRecDepth 100000 in
set_option maxHeartbeats 4000000 in
theorem chores_any (B b N : Nat) (w : World) (h : Cur B w b N) (hN : N ≤ 1152921504606840000) :
    Calls Try.prog 70 #[.pointer (some ⟨b, 0, none⟩)] w fun e w' => ∃ v z, e = .returned (.tuple #[v, .int .i64 z]) ∧ (0 ≤ z ∧ z ≤ 5) ∧ ∃ xs : List Int, xs.length ≤ 10 ∧ KOwn w.heap.size w'.heap.size w' v xs ∧ Cur B w' b (N + 900) ∧ w.grownBy w' (some b) := by
  have hbw := flcur_lt h
  have hBb : B ≤ b := h.1
  have H := hid h
  clear h
  go_enter Try.func70, Try.ntmps70
  go_wp2_with fail
  refine (pick_any B b N 7 w H.out (by omega) (by omega)).mono ?_
  rintro e w1 ⟨r1, hr1, rfl, c1, g1⟩
  have C1 := hid c1; have G1 := hid g1; clear c1 g1 H
  go_wp2_with fail
  refine (one_any B b (N + 2) 20 w1 C1.out (by omega) (by omega)).mono ?_
  rintro e w2 ⟨t2, rfl, c2, g2⟩
  have C2 := hid c2; have G2 := hid (only_trans G1.out g2); clear c2 g2 C1 G1
  cases t2
  case' true =>
    go_wp2_with fail
    refine (pick_any B b (N + 2 + 2) 2 w2 C2.out (by omega) (by omega)).mono ?_
    rintro e w3 ⟨r3, hr3, rfl, c3, g3⟩
    have C3 := hid (c3.mono (show N + 2 + 2 + 2 ≤ N + 6 by omega)); have G3 := hid (only_trans G2.out g3); clear c3 g3 C2 G2
    obtain ⟨m, hm, hm10⟩ : ∃ m : Nat, (8 + (r3 : Int)) = (m : Int) ∧ m ≤ 10 := ⟨8 + r3, by omega, by omega⟩
  case' false =>
    have C3 := hid (C2.out.mono (show N + 2 + 2 ≤ N + 6 by omega)); have G3 := G2; clear C2 G2
    obtain ⟨w3, hw3⟩ : ∃ w3, w3 = w2 := ⟨_, rfl⟩
    subst hw3
    obtain ⟨m, hm, hm10⟩ : ∃ m : Nat, (r1 : Int) = (m : Int) ∧ m ≤ 10 := ⟨r1, by omega, by omega⟩
  all_goals
    have HM := hid hm
    clear hm
    go_wp2
    go_loopw [4, 5] (fun l n wr => ∃ (k j : Nat) (xs : List Int), n = .int .i64 j ∧ k + j ≤ 10 ∧ xs.length = k ∧ wr.ownsRow w.heap.size 3 1 l k (kflat xs) ∧ Cur B wr b (N + 6 + 4 * k) ∧ w.grownBy wr (some b)) (fun _ n _ => (intOf n).toNat)
    case atStart => exact ⟨0, m, [], by rw [HM.out], by omega, rfl, World.ownsRow_nil _ _ _ _, C3.out, G3.out⟩
    case round =>
      obtain ⟨k, j, xs, rfl, hkj, hxk, hown, hcur, hgr⟩ := hrel
      have HO := hid hown; have HC := hid hcur; have HG := hid hgr
      have HXK := hid hxk
      clear hown hcur hgr hxk
      by_cases hj : 0 < j
      · have hsr : w.heap.size ≤ wr.heap.size := HG.out.size
        have hbr : b < wr.heap.size := flcur_lt HC.out
        go_wp2_with fail
        refine (pick_any B b (N + 6 + 4 * k) 12 wr HC.out (by omega) (by omega)).mono ?_
        rintro e w4 ⟨r4, hr4, rfl, c4, g4⟩
        have O4 : Hid (w4.ownsRow w.heap.size 3 1 u4 k (kflat xs)) := flowns_cur HO.out g4 hbw
        have C4 := hid c4; have G4 := hid (only_trans HG.out g4)
        have hs4 : wr.heap.size ≤ w4.heap.size := g4.size
        clear c4 g4 HO HC HG
        have hs4' : w.heap.size ≤ w4.heap.size := by omega
        go_wp2_with (at_builtin; refine wpList_append_reads _ rfl _ _ rfl w.heap.size _ _ _ rfl (O4.out.alloc _) _ [(1 + (r4 : Int))] rfl (kreads_int _ _) (by simp; omega) (by simp; omega) ?_)
        intro v6 w6 hown6 hgr6 _
        have B6 : Hid (Below w.heap.size w4 w6) := ((Below.refl _ _).alloc hs4' _).grown hgr6 (by simp; omega) (fun m hm => (O4.out.lt m hm).1)
        have O6 : Hid (w6.ownsRow w.heap.size 3 1 v6 (k + 1) (kflat (xs ++ [(1 + (r4 : Int))]))) := hown6
        have C6 := hid (C4.out.under hbw (by omega) B6.out)
        have G6 := hid (only_then G4.out B6.out)
        clear hown6 hgr6 C4 G4 O4
        go_wp2
        go_roundw
        case rel => exact ⟨k + 1, j - 1, xs ++ [(1 + (r4 : Int))], by go_num, by omega, by rw [List.length_append, HXK.out]; rfl, O6.out, C6.out.mono (by omega), G6.out⟩
        case measure => simp [intOf]; omega
      · obtain rfl : j = 0 := by omega
        have hl10 : Hid (xs.length ≤ 10) := by show _ ≤ _; rw [HXK.out]; omega
        have HS := hid (KOwn.of_owns HO.out (by rw [HXK.out]; omega))
        by_cases hk0 : k = 0
        · subst hk0
          have HX0 : Hid (xs = []) := List.eq_nil_of_length_eq_zero HXK.out
          obtain ⟨au, cu, rfl⟩ : ∃ a c, u4 = .slice a 0 c := by
            rcases HO.out.2 with ⟨h, _⟩ | ⟨g, c, _, h, _⟩
            · exact ⟨_, _, h⟩
            · exact ⟨_, _, h⟩
          clear HO
          have hbw' : b < wr.heap.size := flcur_lt HC.out
          have hsw0 : w.heap.size ≤ wr.heap.size := HG.out.size
          go_wp2_with fail
          refine (among_in12 (fun z => 0 ≤ z ∧ z ≤ 5) B b (N + 6 + 4 * 0) wr.heap.size 8 8 _ (HC.out.below ((Below.refl _ _).alloc (Nat.le_refl _) _)) (by omega) (by omega) (lit_in12 _ wr [0, 1, 2, 2, 3, 3, 4, 5] _ (by decide)) (by omega) (by omega)).mono ?_
          rintro e wz ⟨zz, hzz, rfl, cz, gz⟩
          have HZZ := hid hzz
          clear hzz
          have SZ : Hid (KOwn w.heap.size wr.heap.size wz (.slice au 0 cu) xs) := HS.out.at fun g' h1 h2 h3 => (gz.block g' (by simp; omega) (by intro e; cases e; omega)).trans (Below.heap_alloc _ _ _ h3)
          have CZ := hid cz; have GZ := hid (only_trans (only_trans HG.out (World.grownBy_alloc _ _ _)) gz)
          have hsz : wr.heap.size + 1 ≤ wz.heap.size := by have := gz.size; simpa using this
          clear cz gz
          go_wp2
          go_ret2
          exact ⟨_, _, rfl, HZZ.out, xs, hl10.out, SZ.out.mono (Nat.le_refl _) (by omega), CZ.out.mono (by omega), GZ.out⟩
        · obtain ⟨g, cg, rfl⟩ : ∃ g c, u4 = .slice (some ⟨g, 0, none⟩) k c := by
            rcases HO.out.2 with ⟨_, h⟩ | ⟨g, c, _, h, _⟩
            · exact absurd h hk0
            · exact ⟨g, c, h⟩
          have hpos : (0 : Int) < (k : Int) := by omega
          have hposn : 0 < k := by omega
          clear HO hk0
          go_wp2_with fail
          refine (one_any B b _ 30 wr HC.out (by omega) (by omega)).mono ?_
          rintro e w8 ⟨t8, rfl, c8, g8⟩
          have S8 : Hid (KOwn w.heap.size wr.heap.size w8 (.slice (some ⟨g, 0, none⟩) k cg) xs) := HS.out.at fun g' h1 h2 _ => g8.block g' h2 (by intro e; cases e; omega)
          have C8 := hid (c8.mono (show _ ≤ N + 300 by omega)); have G8 := hid (only_trans HG.out g8)
          have hs8 := g8.size
          clear c8 g8 HC HG HS
          cases t8
          · have hsw : w.heap.size ≤ w8.heap.size := G8.out.size
            replace S8 := hid (S8.out.mono (Nat.le_refl _) hs8)
            go_wp2_with fail
            refine (among_in12 (fun z => 0 ≤ z ∧ z ≤ 5) B b (N + 300) w8.heap.size 8 8 _ (C8.out.below ((Below.refl _ _).alloc (Nat.le_refl _) _)) (by omega) (by omega) (lit_in12 _ w8 [0, 1, 2, 2, 3, 3, 4, 5] _ (by decide)) (by omega) (by omega)).mono ?_
            rintro e wz ⟨zz, hzz, rfl, cz, gz⟩
            have HZZ := hid hzz
            clear hzz
            have SZ : Hid (KOwn w.heap.size w8.heap.size wz (.slice (some ⟨g, 0, none⟩) k cg) xs) := S8.out.at fun g' h1 h2 h3 => (gz.block g' (by simp; omega) (by intro e; cases e; omega)).trans (Below.heap_alloc _ _ _ h3)
            have CZ := hid cz; have GZ := hid (only_trans (only_trans G8.out (World.grownBy_alloc _ _ _)) gz)
            have hsz : w8.heap.size + 1 ≤ wz.heap.size := by have := gz.size; simpa using this
            clear cz gz
            go_wp2
            go_ret2
            exact ⟨_, _, rfl, HZZ.out, xs, hl10.out, SZ.out.mono (Nat.le_refl _) (by omega), CZ.out.mono (by omega), GZ.out⟩
          · have hsw : w.heap.size ≤ w8.heap.size := G8.out.size
            go_wp2_with fail
            refine (among_any B b (N + 300) w8.heap.size 3 3 _ (C8.out.below ((Below.refl _ _).alloc (Nat.le_refl _) _)) (by omega) (by omega) (lit_new w8 [0, 50, 51] _) (by omega) (by omega)).mono ?_
            rintro e w9 ⟨z9, rfl, c9, g9⟩
            have S9 : Hid (KOwn w.heap.size wr.heap.size w9 (.slice (some ⟨g, 0, none⟩) k cg) xs) := S8.out.at fun g' h1 h2 h3 => (g9.block g' (by simp; omega) (by intro e; cases e; omega)).trans (Below.heap_alloc _ _ _ h3)
            have C9 := hid c9; have G9 := hid (only_trans (only_trans G8.out (World.grownBy_alloc _ _ _)) g9)
            have hs9 : w8.heap.size + 1 ≤ w9.heap.size := by have := g9.size; simpa using this
            clear c9 g9 C8 G8 S8
            have hset := KOwn.set (xs := xs) (by rw [HXK.out]; exact S9.out) 0 z9 (by rw [HXK.out]; exact hposn)
            rw [HXK.out] at hset
            obtain ⟨hset, hgg, f0, d0⟩ := hset
            have HSET := hid hset
            replace f0 : w9.frozen? ⟨g, 0, none⟩ = false := f0
            replace d0 : w9.cell? ⟨g, 0, none⟩ = some (.int .i64 (xs.getD 0 0)) := d0
            generalize xs.getD 0 0 = y0 at d0
            have B10 : Hid (Below w.heap.size w9 (w9.setCell ⟨g, 0, none⟩ (.int .i64 z9))) := (Below.refl w.heap.size w9).setCell hgg.1 _
            have S10 : Hid (KOwn w.heap.size (w9.setCell ⟨g, 0, none⟩ (.int .i64 z9)).heap.size (w9.setCell ⟨g, 0, none⟩ (.int .i64 z9)) (.slice (some ⟨g, 0, none⟩) k cg) (xs.set 0 z9)) := HSET.out.mono (Nat.le_refl _) (by simp [World.setCell]; omega)
            have C10 : Hid (Cur B (w9.setCell ⟨g, 0, none⟩ (.int .i64 z9)) b (N + 302)) := (C9.out.mono (by omega)).under hbw (by omega) B10.out
            have G10 := hid (only_then G9.out B10.out)
            have hl10' : Hid ((xs.set 0 z9).length ≤ 10) := by show _ ≤ _; rw [List.length_set]; exact hl10.out
            have hs10 : w9.heap.size = (w9.setCell ⟨g, 0, none⟩ (.int .i64 z9)).heap.size := by simp [World.setCell]
            have hsw2 : w.heap.size ≤ (w9.setCell ⟨g, 0, none⟩ (.int .i64 z9)).heap.size := by omega
            have hb10 : b < (w9.setCell ⟨g, 0, none⟩ (.int .i64 z9)).heap.size := flcur_lt C10.out
            clear hset hs10
            have DONE : ∀ V, V = w9.setCell ⟨g, 0, none⟩ (.int .i64 z9) → Hid (KOwn w.heap.size V.heap.size V (.slice (some ⟨g, 0, none⟩) k cg) (xs.set 0 z9)) ∧ Hid (Cur B V b (N + 302)) ∧ Hid (w.grownBy V (some b)) ∧ w.heap.size ≤ V.heap.size ∧ b < V.heap.size := fun V hV => by subst hV; exact ⟨S10, C10, G10, hsw2, hb10⟩
            clear S10 C10 G10 hsw2 hb10 HSET B10 C9 G9
            go_wp2_with fail
            obtain ⟨V, hV⟩ : ∃ V, V = w9.setCell ⟨g, 0, none⟩ (.int .i64 z9) := ⟨_, rfl⟩
            obtain ⟨SV, CV, GV, hsv, hbv⟩ := DONE V hV
            have hVs : w9.heap.size = V.heap.size := by rw [hV]; simp [World.setCell]
            rw [← hV, hVs]
            clear DONE hV f0 d0
            refine (among_in12 (fun z => 0 ≤ z ∧ z ≤ 5) B b (N + 302) V.heap.size 8 8 _ (CV.out.below ((Below.refl _ _).alloc (Nat.le_refl _) _)) (by omega) (by omega) (lit_in12 _ V [0, 1, 2, 2, 3, 3, 4, 5] _ (by decide)) (by omega) (by omega)).mono ?_
            rintro e wz ⟨zz, hzz, rfl, cz, gz⟩
            have HZZ := hid hzz
            clear hzz
            have SZ : Hid (KOwn w.heap.size V.heap.size wz (.slice (some ⟨g, 0, none⟩) k cg) (xs.set 0 z9)) := SV.out.at fun g' h1 h2 h3 => (gz.block g' (by simp; omega) (by intro e; cases e; omega)).trans (Below.heap_alloc _ _ _ h3)
            have CZ := hid cz; have GZ := hid (only_trans (only_trans GV.out (World.grownBy_alloc _ _ _)) gz)
            have hsz : V.heap.size + 1 ≤ wz.heap.size := by have := gz.size; simpa using this
            clear cz gz
            go_wp2
            go_ret2
            exact ⟨_, _, rfl, HZZ.out, xs.set 0 z9, hl10'.out, SZ.out.mono (Nat.le_refl _) (by omega), CZ.out.mono (by omega), GZ.out⟩
end Go.Proofs.Ytflhlinkolbbiae
