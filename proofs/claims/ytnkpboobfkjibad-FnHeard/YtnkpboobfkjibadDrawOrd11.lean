/-
  The cursor's order of letters: some numbers in -1 .. 60, in memory of their own; of old memory the cursor alone is written.
-/
import Derived.Test.YtnkpboobfkjibadDraw
import Derived.Test.YtnkpboobfkjibadKOne
import Derived.Test.YtnkpboobfkjibadInts
namespace Go.Proofs.Ytnkpboobfkjibad
open Go.RowKit

theorem owns_far {w w' : World} {base n b : Nat} {t : TypeId} {v : Value} {cs : List Value} (h : w.ownsRow base t 1 v n cs) (g : w.grownBy w' (some b)) (hb : b < base) : w'.ownsRow base t 1 v n cs :=
  owns_stay h fun k hk => g.block k (h.lt k hk).2 (by intro e; have := (h.lt k hk).1; cases e; omega)
theorem lit_one11 (Q : Int → Prop) (w : World) (zs : List Int) (T : TypeId) (hq : ∀ z ∈ zs, Q z) : ∀ i, i < zs.length → ∃ z : Int, Q z ∧ (w.alloc (.cells (zs.map (Value.int .i64)).toArray T)).cell? ⟨w.heap.size, i, none⟩ = some (.int .i64 z) := lit_in12 Q w zs T hq
set_option maxRecDepth 100000 in
set_option maxHeartbeats 8000000 in
theorem order11_any (B b N n : Nat) (w : World) (h : Cur B w b N) (hN : N ≤ 1152921504606840000) (hn : n ≤ 60) :
    Calls Try.prog 112 #[.pointer (some ⟨b, 0, none⟩), .int .i64 (n : Nat)] w fun e w' => ∃ v, e = .returned v ∧ ∃ ys : List Int, (ys.length ≤ n ∧ ∀ z ∈ ys, -1 ≤ z ∧ z ≤ 60) ∧ KOwn w.heap.size w'.heap.size w' v ys ∧ Cur B w' b (N + 300) ∧ w.grownBy w' (some b) := by
  have hbw := rtcur_lt h
  have hBb : B ≤ b := h.1
  have hBw : B ≤ w.heap.size := h.2.1
  have H := hid h
  clear h
  go_enter Try.func112, Try.ntmps112
  go_wp2
  go_loopw [5, 6] (fun l i wr => ∃ (k : Nat) (ys : List Int), k ≤ n ∧ i = .int .i64 (k : Nat) ∧ (ys.length ≤ k ∧ ∀ z ∈ ys, -1 ≤ z ∧ z ≤ 60) ∧ wr.ownsRow w.heap.size 3 1 l ys.length (kflat ys) ∧ Cur B wr b (N + 2 * k) ∧ w.grownBy wr (some b)) (fun _ i _ => n - (intOf i).toNat)
  case atStart => exact ⟨0, [], Nat.zero_le _, rfl, ⟨Nat.zero_le _, by simp⟩, World.ownsRow_nil _ _ _ _, H.out, grown_refl _ _⟩
  case round =>
    obtain ⟨k, ys, hk, rfl, ⟨hyk, hyz⟩, hown, hcur, hgr⟩ := hrel
    have HO := hid hown
    have HC := hid hcur
    have HG := hid hgr
    have HZ := hid hyz
    have hsz := hgr.size
    clear hown hcur hgr hyz H
    by_cases hlt : k < n
    · have hki : (k : Int) < (n : Int) := by omega
      go_wp2_with fail
      refine (one_any B b _ 12 _ HC.out (by omega) (by omega)).mono ?_
      rintro e w2 ⟨t2, rfl, c2, g2⟩
      have O2 := hid (owns_far HO.out g2 hbw)
      have C2 := hid (c2.mono (show N + 2 * k + 2 ≤ N + 2 * (k + 1) by omega)); have G2 := hid (only_trans HG.out g2); have hs2 := g2.size; clear c2 g2 HO HC HG
      cases t2
      · go_wp2_with (at_builtin; refine wpList_append_reads _ rfl _ _ rfl w.heap.size _ _ _ rfl (O2.out.alloc _) _ [(k : Int)] rfl (kreads_int _ _) (by simp; omega) (by simp; omega) ?_)
        intro v3 w3 hown3 hgr3 _
        have O3 : Hid (w3.ownsRow w.heap.size 3 1 v3 (ys ++ [(k : Int)]).length (kflat (ys ++ [(k : Int)]))) := by show World.ownsRow _ _ _ _ _ _ _; rw [List.length_append]; exact hown3
        have B3 : Hid (Below w.heap.size w2 w3) := ((Below.refl w.heap.size w2).alloc (by omega) _).grown hgr3 (by simp; omega) (by intro i hi; exact (O2.out.lt i hi).1)
        have C3 := hid (C2.out.under hbw hBw B3.out)
        have G3 := hid (only_then G2.out B3.out)
        have HZ3 : Hid (∀ z ∈ ys ++ [(k : Int)], -1 ≤ z ∧ z ≤ 60) := fun z hz => by
          rcases List.mem_append.1 hz with h | h
          · exact HZ.out z h
          · rw [List.mem_singleton.1 h]; omega
        clear hown3 hgr3 O2 C2 G2
        go_wp2
        go_roundw
        case rel => exact ⟨k + 1, ys ++ [(k : Int)], by omega, by go_num, ⟨by rw [List.length_append, List.length_singleton]; omega, HZ3.out⟩, O3.out, C3.out, G3.out⟩
        case measure => simp [intOf]; omega
      · go_wp2
        go_roundw
        case rel => exact ⟨k + 1, ys, by omega, by go_num, ⟨by omega, HZ.out⟩, O2.out, C2.out, G2.out⟩
        case measure => simp [intOf]; omega
    · obtain rfl : k = n := by omega
      obtain ⟨len, hlen⟩ : ∃ len, ys.length = len := ⟨_, rfl⟩
      have HLN := hid hlen
      have HK := hid (KOwn.of_owns HO.out (by omega))
      have HF : Hid (len ≠ 0 → ∃ g cap, u5 = .slice (some ⟨g, 0, none⟩) len cap) := fun h0 => by
        rcases HO.out.2 with ⟨_, h⟩ | ⟨g, c, _, h, _⟩
        · exact absurd (hlen ▸ h) h0
        · exact ⟨g, c, by rw [h, hlen]⟩
      obtain ⟨ao, co, hao⟩ : ∃ a c, u5 = .slice a len c := by
        rcases HO.out.2 with ⟨h, h0⟩ | ⟨g, c, _, h, _⟩
        · exact ⟨none, 0, by rw [h, ← hlen, h0]⟩
        · exact ⟨_, _, by rw [h, hlen]⟩
      subst hao
      have hlk : len ≤ k := by omega
      clear HO hlen hyk
      have hki : ¬ (k : Int) < (k : Int) := by omega
      go_wp2_with fail
      refine (pick_any B b _ 8 _ HC.out (by omega) (by omega)).mono ?_
      rintro e w3 ⟨r3, hr3, rfl, c3, g3⟩
      have hs3 := g3.size
      have K3 : Hid (KOwn w.heap.size wr.heap.size w3 (.slice ao len co) ys) := HK.out.at fun g' h1 h2 h3 => g3.block g' h3 (by intro e; cases e; omega)
      have C3 := hid (c3.mono (show _ ≤ N + 122 by omega)); have G3 := hid (only_trans HG.out g3); clear c3 g3 HK HC HG
      obtain ⟨q, hq⟩ : ∃ q, wr.heap.size = q := ⟨_, rfl⟩
      rw [hq] at K3 hs3 hsz
      clear hq
      go_wp2
      go_loopw [7] (fun i wz => ∃ (m : Nat) (zs : List Int), m ≤ 8 ∧ i = .int .i64 (m : Nat) ∧ (zs.length = len ∧ ∀ z ∈ zs, -1 ≤ z ∧ z ≤ 60) ∧ KOwn w.heap.size q wz (.slice ao len co) zs ∧ Cur B wz b (N + 122 + 4 * (8 - m)) ∧ q ≤ wz.heap.size ∧ w.grownBy wz (some b)) (fun i _ => (intOf i).toNat)
      case atStart => exact ⟨r3, ys, by omega, rfl, ⟨HLN.out, HZ.out⟩, K3.out, C3.out.mono (by omega), hs3, G3.out⟩
      case round =>
        obtain ⟨m, zs, hm, rfl, ⟨hzk, hzz⟩, hkz, hcz, hsz2, hgz⟩ := hrel
        have KZ := hid hkz; have CZ := hid hcz; have GZ := hid hgz; have HZK := hid hzk; have HZZ := hid hzz
        clear hkz hcz hgz hzk hzz K3 C3 G3 HZ HLN
        have END : Hid (∀ (W : World) (zs' : List Int) (vv : Value), vv = .slice ao len co → zs'.length = len → (∀ z ∈ zs', -1 ≤ z ∧ z ≤ 60) → KOwn w.heap.size q W (.slice ao len co) zs' → Cur B W b (N + 300) → q ≤ W.heap.size → w.grownBy W (some b) → ∃ v, Ending.returned vv = .returned v ∧ ∃ ys : List Int, (ys.length ≤ k ∧ ∀ z ∈ ys, -1 ≤ z ∧ z ≤ 60) ∧ KOwn w.heap.size W.heap.size W v ys ∧ Cur B W b (N + 300) ∧ w.grownBy W (some b)) :=
          fun W zs' vv hv h1 h2 h3 h4 h5 h6 => ⟨_, rfl, zs', ⟨by omega, h2⟩, (hv ▸ h3).mono (Nat.le_refl _) h5, h4, h6⟩
        by_cases hgo : 0 < m ∧ 1 < len
        · obtain ⟨hm0, hk1⟩ := hgo
          obtain ⟨g, cap, hg⟩ := HF.out (by omega)
          injection hg with hg1 hg2 hg3
          subst hg1 hg3
          have hk1i : (1 : Int) < (len : Int) := by omega
          have hm0i : (0 : Int) < (m : Int) := by omega
          obtain ⟨l1, hl1⟩ : ∃ l1, len - 1 = l1 := ⟨_, rfl⟩
          have d1 : (len : Int) - 1 = (l1 : Nat) := by omega
          have d2 : IntKind.i64.wrap (l1 : Int) = (l1 : Nat) := by rw [IntKind.wrap_i64]; omega
          go_wp2_with fail
          refine (pick_any B b _ (l1 : Int) _ CZ.out (by omega) (by omega)).mono ?_
          rintro e w4 ⟨i, hi', rfl, c4, g4⟩
          have K4 := hid (KZ.out.at (w' := w4) fun g' h1 h2 h3 => g4.block g' h3 (by intro e; cases e; omega))
          have C4 := hid c4; have G4 := hid (only_trans GZ.out g4); have hs4 := g4.size; clear c4 g4 KZ CZ GZ
          have hil : i < l1 := by omega
          obtain ⟨i1, hi1⟩ : ∃ i1, i + 1 = i1 := ⟨_, rfl⟩
          have d3 : (i : Int) + 1 = (i1 : Nat) := by rw [← hi1]; simp
          have d4 : IntKind.i64.wrap (i1 : Int) = (i1 : Nat) := by rw [IntKind.wrap_i64]; omega
          go_wp2_with fail
          refine (pick_any B b _ 4 _ C4.out (by omega) (by omega)).mono ?_
          rintro e w5 ⟨p, hp', rfl, c5, g5⟩
          have K5 := hid (K4.out.at (w' := w5) fun g' h1 h2 h3 => g5.block g' h3 (by intro e; cases e; omega))
          have C5 := hid c5; have G5 := hid (only_trans G4.out g5); have hs5 := g5.size; clear c5 g5 K4 C4 G4
          obtain ⟨i2, hi2⟩ : ∃ i2, i1 + p = i2 := ⟨_, rfl⟩
          have d5 : (i1 : Int) + (p : Int) = (i2 : Nat) := by rw [← hi2]; simp
          have d6 : IntKind.i64.wrap (i2 : Int) = (i2 : Nat) := by rw [IntKind.wrap_i64]; omega
          obtain ⟨j, hj⟩ : ∃ j : Nat, min (l1 : Int) (i2 : Int) = (j : Nat) := ⟨min l1 i2, by omega⟩
          have hjk : j < len := by omega
          have hik : i < len := by omega
          have HJ := hid hj
          clear hj hi1 hi2 hl1 hi' hp'
          go_wp2_with fail
          refine (sleast_eq (l1 : Int) (i2 : Int) (j : Int) HJ.out _).mono ?_
          rintro e w' ⟨rfl, hw⟩; obtain rfl := hw.symm
          have hset := KOwn.set (xs := zs) (by rw [HZK.out]; exact K5.out) i (zs.getD j 0) (by rw [HZK.out]; exact hik)
          rw [HZK.out] at hset
          obtain ⟨hset, hgg, fi, di⟩ := hset
          have hcj := (KOwn.set (xs := zs) (by rw [HZK.out]; exact K5.out) j 0 (by rw [HZK.out]; exact hjk)).2.2.2
          have hset2 := KOwn.set (xs := zs.set i (zs.getD j 0)) (by rw [List.length_set, HZK.out]; exact hset) j (zs.getD i 0) (by rw [List.length_set, HZK.out]; exact hjk)
          rw [List.length_set, HZK.out] at hset2
          obtain ⟨hset2, _, fj, dj⟩ := hset2
          have HSET := hid hset2
          have a0 : (0 : Int) ≤ (i : Int) := by omega
          have a1 : (i : Int) < (len : Int) := by omega
          have a2 : (0 : Int) ≤ (j : Int) := by omega
          have a3 : (j : Int) < (len : Int) := by omega
          unfold KFree at fi fj
          unfold KCells at di hcj dj
          have HZ2 : Hid (∀ z ∈ (zs.set i (zs.getD j 0)).set j (zs.getD i 0), -1 ≤ z ∧ z ≤ 60) := fun z hz => by
            have hm1 : zs.getD i 0 ∈ zs := by simp [List.getD_eq_getElem?_getD, HZK.out, hik]
            have hm2 : zs.getD j 0 ∈ zs := by simp [List.getD_eq_getElem?_getD, HZK.out, hjk]
            rcases List.mem_or_eq_of_mem_set hz with h | h
            · rcases List.mem_or_eq_of_mem_set h with h | h
              · exact HZZ.out z h
              · rw [h]; exact HZZ.out _ hm2
            · rw [h]; exact HZZ.out _ hm1
          obtain ⟨x, hx⟩ : ∃ x, x = zs.getD i 0 := ⟨_, rfl⟩
          obtain ⟨y, hy⟩ : ∃ y, y = zs.getD j 0 := ⟨_, rfl⟩
          rw [← hx] at di HSET HZ2
          rw [← hy] at hcj HSET fj dj HZ2
          have B5 : Hid (Below w.heap.size w5 ((w5.setCell ⟨g, i, none⟩ (.int .i64 y)).setCell ⟨g, j, none⟩ (.int .i64 x))) := ((Below.refl w.heap.size w5).setCell hgg.1 _).setCell hgg.1 _
          have HLL : Hid (((zs.set i y).set j x).length = len) := by show _ = _; rw [List.length_set, List.length_set, HZK.out]
          have CF := hid ((C5.out.mono (show _ ≤ N + 122 + 4 * (8 - (m - 1)) by omega)).under hbw hBw B5.out)
          have GF := hid (only_then G5.out B5.out)
          have hw1 : IntKind.i64.wrap ((m : Int) - 1) = ((m - 1 : Nat) : Int) := by rw [IntKind.wrap_i64]; omega
          clear hset hset2 hx hy C5 G5 K5
          go_wp2
          go_roundw
          case rel =>
            exact ⟨m - 1, (zs.set i y).set j x, by omega, by go_num, ⟨HLL.out, HZ2.out⟩, HSET.out, CF.out, by simp [World.setCell]; omega, GF.out⟩
          case measure => simp [intOf]; omega
        · have GO : Hid (¬ (0 < m ∧ 1 < len)) := hgo
          by_cases hm0 : 0 < m
          case' pos =>
            have hk1 : ¬ 1 < len := fun h => hgo ⟨hm0, h⟩
            have hm0i : (0 : Int) < (m : Int) := by omega
            have hd1 : decide ((len : Int) > 1) = false := by simp; omega
          case' neg =>
            have hm0i : ¬ (0 : Int) < (m : Int) := by omega
          all_goals
            clear hgo
            by_cases hk0 : len = 0
            · have hk0i : (len : Int) = 0 := by omega
              have hd0 : decide ((len : Int) > 0) = false := by simp; omega
              have HK0 := hid hk0
              go_wp2
              go_ret
              exact END.out _ zs _ (by first | rfl | (rw [HK0.out]; rfl)) HZK.out HZZ.out KZ.out (CZ.out.mono (by omega)) hsz2 GZ.out
            · have hk0i : (0 : Int) < (len : Int) := by omega
              obtain ⟨g, cap, hg⟩ := HF.out hk0
              injection hg with hg1 hg2 hg3
              subst hg1 hg3
              go_wp2_with fail
              refine (one_any B b _ 20 _ CZ.out (by omega) (by omega)).mono ?_
              rintro e w4 ⟨t4, rfl, c4, g4⟩
              have K4 := hid (KZ.out.at (w' := w4) fun g' h1 h2 h3 => g4.block g' h3 (by intro e; cases e; omega))
              have C4 := hid c4; have G4 := hid (only_trans GZ.out g4); have hs4 := g4.size; clear c4 g4 KZ CZ GZ
              cases t4
              · go_wp2
                go_ret
                exact END.out _ zs _ rfl HZK.out HZZ.out K4.out (C4.out.mono (by omega)) (by omega) G4.out
              · obtain ⟨l1, hl1⟩ : ∃ l1, len - 1 = l1 := ⟨_, rfl⟩
                have d1 : (len : Int) - 1 = (l1 : Nat) := by omega
                have d2 : IntKind.i64.wrap (l1 : Int) = (l1 : Nat) := by rw [IntKind.wrap_i64]; omega
                have hl1k : l1 < len := by omega
                have d3 : (l1 : Int) < (len : Int) := by omega
                have hcl := (KOwn.set (xs := zs) (by rw [HZK.out]; exact K4.out) l1 0 (by rw [HZK.out]; exact hl1k)).2.2.2
                have hbd := HZZ.out (zs.getD l1 0) (by simp [List.getD_eq_getElem?_getD, HZK.out, hl1k])
                unfold KCells at hcl
                obtain ⟨la, hla⟩ : ∃ la, zs.getD l1 0 = la := ⟨_, rfl⟩
                rw [hla] at hcl hbd
                have HLI : Hid (∀ i, i < 3 → ∃ z : Int, (-1 ≤ z ∧ z ≤ 60) ∧ (w4.alloc (.cells #[.int .i64 (-1), .int .i64 60, .int .i64 la] 3)).cell? ⟨w4.heap.size, i, none⟩ = some (.int .i64 z)) := lit_one11 (fun z => -1 ≤ z ∧ z ≤ 60) w4 [-1, 60, la] _ (by
                  intro z hz
                  simp only [List.mem_cons, List.not_mem_nil, or_false] at hz
                  rcases hz with rfl | rfl | rfl <;> omega)
                clear hl1 hla hbd
                go_wp2_with fail
                refine (among_in12 (fun z => -1 ≤ z ∧ z ≤ 60) B b _ w4.heap.size 3 3 _ (C4.out.below ((Below.refl _ _).alloc (Nat.le_refl _) _)) (by omega) (by omega) HLI.out (by omega) (by omega)).mono ?_
                rintro e w5 ⟨z, hz, rfl, c5, g5⟩
                have hs5 : w4.heap.size + 1 ≤ w5.heap.size := by have := g5.size; rw [World.size_alloc] at this; exact this
                have K5 := hid ((K4.out.below ((Below.refl _ _).alloc (Nat.le_refl _) (.cells #[.int .i64 (-1), .int .i64 60, .int .i64 la] 3))).at (w' := w5) fun g' h1 h2 h3 => g5.block g' h3 (by intro e; cases e; omega))
                have C5 := hid c5; have G5 := hid (only_trans (only_trans G4.out (World.grownBy_alloc w4 _ (some b))) g5); clear c5 g5 K4 C4 G4 hcl
                have hset := KOwn.set (xs := zs) (by rw [HZK.out]; exact K5.out) 0 z (by rw [HZK.out]; omega)
                rw [HZK.out] at hset
                obtain ⟨hset, hgg, fi, di⟩ := hset
                have HSET := hid hset
                unfold KFree at fi
                unfold KCells at di
                have B5 : Hid (Below w.heap.size w5 (w5.setCell ⟨g, 0, none⟩ (.int .i64 z))) := (Below.refl w.heap.size w5).setCell hgg.1 _
                have HZ2 : Hid (∀ x ∈ zs.set 0 z, -1 ≤ x ∧ x ≤ 60) := fun x hx => by
                  rcases List.mem_or_eq_of_mem_set hx with h | h
                  · exact HZZ.out x h
                  · rw [h]; exact hz
                have HLL : Hid ((zs.set 0 z).length = len) := by show _ = _; rw [List.length_set, HZK.out]
                have CF := hid ((C5.out.mono (show _ ≤ N + 300 by omega)).under hbw hBw B5.out)
                have GF := hid (only_then G5.out B5.out)
                have hsF : q ≤ (w5.setCell ⟨g, 0, none⟩ (.int .i64 z)).heap.size := by simp [World.setCell]; omega
                clear hset hz C5 G5 K5
                go_wp2
                go_ret
                exact END.out _ (zs.set 0 z) _ rfl HLL.out HZ2.out HSET.out CF.out hsF GF.out
end Go.Proofs.Ytnkpboobfkjibad
