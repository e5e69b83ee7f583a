/-
  The cursor's order of tasks: whatever it is, as many numbers as there are tasks, in memory of its own; of old memory the cursor alone is written.
-/
import Derived.Test.YtpkngcamaahhdabDrawTasks
import Derived.Test.YtpkngcamaahhdabKIntRows
import Derived.Test.YtpkngcamaahhdabOwnsSame
namespace Go.Proofs.Ytpkngcamaahhdab
open Go.RowKit

set_option maxRecDepth 100000 in
set_option maxHeartbeats 4000000 in
theorem torder_any (B b N n : Nat) (w : World) (h : Cur B w b N) (hN : N ≤ 1152921504606840000) (hn : n ≤ 42) :
    Calls Try.prog 61 #[.pointer (some ⟨b, 0, none⟩), .int .i64 n] w fun e w' => ∃ v, e = .returned v ∧ ∃ ys : List Int, ys.length = n ∧ KOwn w.heap.size w'.heap.size w' v ys ∧ Cur B w' b (N + 900) ∧ w.grownBy w' (some b) := by
  obtain ⟨i0, hi, hz0, hz1, hz2⟩ := info_parts info_int
  have hbw := tkcur_lt h
  have hBb : B ≤ b := h.1
  have H := hid h
  clear h
  go_enter Try.func61, Try.ntmps61
  go_wp2
  go_loopw [5, 6] (fun l i wr => ∃ (k : Nat) (ys : List Int), k ≤ n ∧ i = .int .i64 k ∧ ys.length = k ∧ wr.ownsRow w.heap.size 3 1 l k (kflat ys) ∧ Below w.heap.size w wr) (fun _ i _ => n - (intOf i).toNat)
  case atStart => exact ⟨0, [], Nat.zero_le _, rfl, rfl, World.ownsRow_nil _ _ _ _, Below.refl _ _⟩
  case round =>
    obtain ⟨k, ys, hk, rfl, hyk, hown, hbel⟩ := hrel
    have HO := hid hown
    have HB := hid hbel
    have hsz := hbel.size
    have HYK := hid hyk
    clear hown hbel hyk
    by_cases hlt : k < n
    · go_wp2_with (at_builtin; refine wpList_append_own _ rfl _ _ 42 rfl w.heap.size 3 i0 (.int .i64 0) 1 8 Try.underlying42 hi hz0 hz1 hz2 rfl (by decide) _ _ _ rfl (HO.out.alloc _) ⟨wr.heap.size, 0, none⟩ 1 1 (kflat [(k : Int)]) rfl rfl (one_at_new rfl) (kflat_one _) (by unfold maxLen; omega) (by omega) (by simp; omega) ?_)
      intro v2 w2 hown2 hgr2 _
      have O2 : Hid (w2.ownsRow w.heap.size 3 1 v2 (k + 1) (kflat (ys ++ [(k : Int)]))) := by
        show World.ownsRow _ _ _ _ _ _ _
        rw [kflat_append]
        exact hown2
      have B2 : Hid (Below w.heap.size w w2) := grown_below HB.out hsz hgr2 (owns_base HO.out) (Nat.le_refl _)
      clear hown2 hgr2
      go_wp2
      go_roundw
      case rel => exact ⟨k + 1, ys ++ [(k : Int)], by omega, by go_num, by rw [List.length_append, HYK.out]; rfl, O2.out, B2.out⟩
      case measure => simp [intOf]; omega
    · obtain rfl : k = n := by omega
      have HK := hid (KOwn.of_owns HO.out (by rw [HYK.out]; omega))
      have HC := hid (H.out.below HB.out)
      have HG := hid (only_of_below (r := some b) HB.out)
      obtain ⟨ao, co, rfl⟩ : ∃ a c, u5 = .slice a k c := by
        rcases HO.out.2 with ⟨h, h0⟩ | ⟨g, c, _, h, _⟩
        · exact ⟨none, 0, by rw [h, h0]⟩
        · exact ⟨_, _, h⟩
      have HF : Hid (k ≠ 0 → ∃ g, ao = some ⟨g, 0, none⟩) := fun h0 => by
        rcases HO.out.2 with ⟨_, h⟩ | ⟨g, c, _, h, _⟩
        · exact absurd h h0
        · injection h with h1 h2 h3; exact ⟨g, h1⟩
      clear HO HB H
      go_wp2_with fail
      refine (pick_any B b N 6 _ HC.out (by omega) (by omega)).mono ?_
      rintro e w3 ⟨r3, hr3, rfl, c3, g3⟩
      have hs3 := g3.size
      have K3 : Hid (KOwn w.heap.size wr.heap.size w3 (.slice ao k co) ys) := HK.out.at fun g' h1 h2 _ => g3.block g' h2 (by intro e; cases e; omega)
      have C3 := hid c3; have G3 := hid (only_trans HG.out g3); clear c3 g3 HK HC HG
      go_wp2
      go_loopw [7] (fun i wz => ∃ (m : Nat) (zs : List Int), m ≤ 42 ∧ i = .int .i64 m ∧ zs.length = k ∧ KOwn w.heap.size wr.heap.size wz (.slice ao k co) zs ∧ Cur B wz b (N + 2 + 4 * (42 - m)) ∧ wr.heap.size ≤ wz.heap.size ∧ w.grownBy wz (some b)) (fun i _ => (intOf i).toNat)
      case atStart => exact ⟨r3, ys, by omega, rfl, HYK.out, K3.out, C3.out.mono (by omega), hs3, G3.out⟩
      case round =>
        obtain ⟨w0, hw0⟩ : ∃ w0 : Nat, w0 = wr.heap.size := ⟨_, rfl⟩
        obtain ⟨m, zs, hm, rfl, hzk, hkz, hcz, hsz2, hgz⟩ := hrel
        have KZ := hid hkz; have CZ := hid hcz; have GZ := hid hgz; have HZK := hid hzk
        clear hkz hcz hgz hzk K3 C3 G3 hw0
        by_cases hgo : 0 < m ∧ 1 < k
        · obtain ⟨hm0, hk1⟩ := hgo
          obtain ⟨g, hg⟩ := HF.out (by omega)
          subst hg
          have hk1i : (1 : Int) < (k : Int) := by omega
          have hm0i : (0 : Int) < (m : Int) := by omega
          go_wp2_with fail
          refine (pick_any B b _ k _ CZ.out (by omega) (by omega)).mono ?_
          rintro e w4 ⟨i, hi', rfl, c4, g4⟩
          have K4 := hid (KZ.out.at (w' := w4) fun g' h1 h2 h3 => g4.block g' h3 (by intro e; cases e; omega))
          have C4 := hid c4; have G4 := hid (only_trans GZ.out g4); have hs4 := g4.size; clear c4 g4 KZ CZ GZ
          go_wp2_with fail
          refine (pick_any B b _ k _ C4.out (by omega) (by omega)).mono ?_
          rintro e w5 ⟨j, hj', rfl, c5, g5⟩
          have K5 := hid (K4.out.at (w' := w5) fun g' h1 h2 h3 => g5.block g' h3 (by intro e; cases e; omega))
          have C5 := hid c5; have G5 := hid (only_trans G4.out g5); have hs5 := g5.size; clear c5 g5 K4 C4 G4
          have hik : i < k := by omega
          have hjk : j < k := by omega
          have hset := KOwn.set (xs := zs) (by rw [HZK.out]; exact K5.out) i (zs.getD j 0) (by rw [HZK.out]; exact hik)
          rw [HZK.out] at hset
          obtain ⟨hset, hgg, fi, di⟩ := hset
          have hcj := (KOwn.set (xs := zs) (by rw [HZK.out]; exact K5.out) j 0 (by rw [HZK.out]; exact hjk)).2.2.2
          have hset2 := KOwn.set (xs := zs.set i (zs.getD j 0)) (by rw [List.length_set, HZK.out]; exact hset) j (zs.getD i 0) (by rw [List.length_set, HZK.out]; exact hjk)
          rw [List.length_set, HZK.out] at hset2
          obtain ⟨hset2, _, fj, dj⟩ := hset2
          have HSET := hid hset2
          have a0 : (0 : Int) ≤ (i : Int) := by omega
          have a1 : (i : Int) < (k : Int) := by omega
          have a2 : (0 : Int) ≤ (j : Int) := by omega
          have a3 : (j : Int) < (k : Int) := by omega
          unfold KFree at fi fj
          unfold KCells at di hcj dj
          obtain ⟨x, hx⟩ : ∃ x, x = zs.getD i 0 := ⟨_, rfl⟩
          obtain ⟨y, hy⟩ : ∃ y, y = zs.getD j 0 := ⟨_, rfl⟩
          rw [← hx] at di HSET
          rw [← hy] at hcj HSET fj dj
          have B5 : Hid (Below w.heap.size w5 ((w5.setCell ⟨g, i, none⟩ (.int .i64 y)).setCell ⟨g, j, none⟩ (.int .i64 x))) := ((Below.refl w.heap.size w5).setCell hgg.1 _).setCell hgg.1 _
          have HLL : Hid (((zs.set i y).set j x).length = k) := by show _ = _; rw [List.length_set, List.length_set, HZK.out]
          have CF := hid ((C5.out.mono (show _ ≤ N + 2 + 4 * (42 - (m - 1)) by omega)).under hbw (by omega) B5.out)
          have GF := hid (only_then G5.out B5.out)
          have hw1 : IntKind.i64.wrap ((m : Int) - 1) = ((m - 1 : Nat) : Int) := by rw [IntKind.wrap_i64]; omega
          clear hset hset2 hx hy C5 G5 K5
          go_wp2
          go_roundw
          case rel => exact ⟨m - 1, (zs.set i y).set j x, by omega, by go_num, HLL.out, HSET.out, CF.out, by simp [World.setCell]; omega, GF.out⟩
          case measure => simp [intOf]; omega
        · by_cases hm0 : 0 < m
          · have hk1 : ¬ 1 < k := fun h => hgo ⟨hm0, h⟩
            have hm0i : (0 : Int) < (m : Int) := by omega
            have hd1 : decide ((k : Int) > 1) = false := by simp; omega
            clear hgo
            by_cases hk0 : k = 0
            · have hk0i : (k : Int) = 0 := by omega
              have hd0 : decide ((k : Int) > 0) = false := by simp; omega
              go_wp2
              go_ret
              exact ⟨_, rfl, zs, HZK.out, KZ.out.mono (Nat.le_refl _) hsz2, CZ.out.mono (by omega), GZ.out⟩
            · have hk0i : (0 : Int) < (k : Int) := by omega
              obtain ⟨g, hg⟩ := HF.out hk0
              subst hg
              go_wp2_with fail
              refine (one_any B b _ 20 _ CZ.out (by omega) (by omega)).mono ?_
              rintro e w4 ⟨t4, rfl, c4, g4⟩
              have K4 := hid (KZ.out.at (w' := w4) fun g' h1 h2 h3 => g4.block g' h3 (by intro e; cases e; omega))
              have C4 := hid c4; have G4 := hid (only_trans GZ.out g4); have hs4 := g4.size; clear c4 g4 KZ CZ GZ
              cases t4
              · go_wp2
                go_ret
                exact ⟨_, rfl, zs, HZK.out, K4.out.mono (Nat.le_refl _) (by omega), C4.out.mono (by omega), G4.out⟩
              · have hw2 : IntKind.i64.wrap ((k : Int) + 2) = (k : Int) + 2 := by rw [IntKind.wrap_i64]; omega
                go_wp2_with fail
                refine (pick_any B b _ ((k : Int) + 2) _ C4.out (by omega) (by omega)).mono ?_
                rintro e w5 ⟨r, hr, rfl, c5, g5⟩
                have K5 := hid (K4.out.at (w' := w5) fun g' h1 h2 h3 => g5.block g' h3 (by intro e; cases e; omega))
                have C5 := hid c5; have G5 := hid (only_trans G4.out g5); have hs5 := g5.size; clear c5 g5 K4 C4 G4
                obtain ⟨z, hz⟩ : ∃ z : Int, z = (r : Int) - 1 := ⟨_, rfl⟩
                have hw3 : IntKind.i64.wrap ((r : Int) - 1) = z := by rw [IntKind.wrap_i64]; omega
                have hset := KOwn.set (xs := zs) (by rw [HZK.out]; exact K5.out) 0 z (by rw [HZK.out]; omega)
                rw [HZK.out] at hset
                obtain ⟨hset, hgg, fi, di⟩ := hset
                have HSET := hid hset
                unfold KFree at fi
                unfold KCells at di
                have B5 : Hid (Below w.heap.size w5 (w5.setCell ⟨g, 0, none⟩ (.int .i64 z))) := (Below.refl w.heap.size w5).setCell hgg.1 _
                clear hset hz
                go_wp2
                go_ret
                exact ⟨_, rfl, zs.set 0 z, by rw [List.length_set]; exact HZK.out, HSET.out.mono (Nat.le_refl _) (by simp [World.setCell]; omega), (C5.out.mono (by omega)).under hbw (by omega) B5.out, only_then G5.out B5.out⟩
          · obtain rfl : m = 0 := by omega
            clear hgo
            by_cases hk0 : k = 0
            · have hk0i : (k : Int) = 0 := by omega
              have hd0 : decide ((k : Int) > 0) = false := by simp; omega
              go_wp2
              go_ret
              exact ⟨_, rfl, zs, HZK.out, KZ.out.mono (Nat.le_refl _) hsz2, CZ.out.mono (by omega), GZ.out⟩
            · have hk0i : (0 : Int) < (k : Int) := by omega
              obtain ⟨g, hg⟩ := HF.out hk0
              subst hg
              go_wp2_with fail
              refine (one_any B b _ 20 _ CZ.out (by omega) (by omega)).mono ?_
              rintro e w4 ⟨t4, rfl, c4, g4⟩
              have K4 := hid (KZ.out.at (w' := w4) fun g' h1 h2 h3 => g4.block g' h3 (by intro e; cases e; omega))
              have C4 := hid c4; have G4 := hid (only_trans GZ.out g4); have hs4 := g4.size; clear c4 g4 KZ CZ GZ
              cases t4
              · go_wp2
                go_ret
                exact ⟨_, rfl, zs, HZK.out, K4.out.mono (Nat.le_refl _) (by omega), C4.out.mono (by omega), G4.out⟩
              · have hw2 : IntKind.i64.wrap ((k : Int) + 2) = (k : Int) + 2 := by rw [IntKind.wrap_i64]; omega
                go_wp2_with fail
                refine (pick_any B b _ ((k : Int) + 2) _ C4.out (by omega) (by omega)).mono ?_
                rintro e w5 ⟨r, hr, rfl, c5, g5⟩
                have K5 := hid (K4.out.at (w' := w5) fun g' h1 h2 h3 => g5.block g' h3 (by intro e; cases e; omega))
                have C5 := hid c5; have G5 := hid (only_trans G4.out g5); have hs5 := g5.size; clear c5 g5 K4 C4 G4
                obtain ⟨z, hz⟩ : ∃ z : Int, z = (r : Int) - 1 := ⟨_, rfl⟩
                have hw3 : IntKind.i64.wrap ((r : Int) - 1) = z := by rw [IntKind.wrap_i64]; omega
                have hset := KOwn.set (xs := zs) (by rw [HZK.out]; exact K5.out) 0 z (by rw [HZK.out]; omega)
                rw [HZK.out] at hset
                obtain ⟨hset, hgg, fi, di⟩ := hset
                have HSET := hid hset
                unfold KFree at fi
                unfold KCells at di
                have B5 : Hid (Below w.heap.size w5 (w5.setCell ⟨g, 0, none⟩ (.int .i64 z))) := (Below.refl w.heap.size w5).setCell hgg.1 _
                clear hset hz
                go_wp2
                go_ret
                exact ⟨_, rfl, zs.set 0 z, by rw [List.length_set]; exact HZK.out, HSET.out.mono (Nat.le_refl _) (by simp [World.setCell]; omega), (C5.out.mono (by omega)).under hbw (by omega) B5.out, only_then G5.out B5.out⟩
end Go.Proofs.Ytpkngcamaahhdab
