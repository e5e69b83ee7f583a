/-
  spec.l14Arrive, spec.ArriveAll: each letter to the way on which it arrives first. Nothing old is written.
-/
import Derived.Test.YtflhlinkolbbiaeSLastA
import Derived.Test.YtflhlinkolbbiaeIRows
import Derived.Test.YtflhlinkolbbiaeBoxL
namespace Go.Proofs.Ytflhlinkolbbiae
open Go.RowKit

set_option maxRecDepth 100000 in
set_option maxHeartbeats 16000000 in
theorem sarrive_eq (v : Value) (xs : List WyEl) (m : Nat) (w : World) (h0 : WyReads w v xs) (hg : GWays xs) (hm : m ≤ 40) :
    Calls Try.prog 95 #[v, .int .i64 (m : Nat)] w fun e w' => ∃ u0, e = .returned u0 ∧ KOwn w.heap.size w'.heap.size w' u0 (ofN (arrP (arrW xs) xs.length m)) ∧ Below w.heap.size w w' := by
  have R0 := hid h0
  have HG := hid hg
  have HM := hid hm
  obtain ⟨i0, hi, hz0, hz1, hz2⟩ := info_parts info_int
  obtain ⟨a0, p0, rfl, _, _⟩ := h0
  obtain ⟨n, hn⟩ : ∃ n, n = xs.length := ⟨_, rfl⟩
  rw [← hn] at R0 ⊢
  have HN := hid hn
  have hn4 : n ≤ 4 := by rw [hn]; exact HG.out.len.2
  have hn1 : 1 ≤ n := by rw [hn]; exact HG.out.len.1
  have N4 := hid hn4
  have N1 := hid hn1
  clear hn hn4 hn1 hg
  have O1 : Hid (IRow (w.alloc (.cells (madeCells #[.int .i64 0] n) 3)) w.heap.size n n (ofN (arrP (arrW xs) n 0))) := by
    show IRow _ _ _ _ (ofN (List.replicate n 0))
    rw [show ofN (List.replicate n 0) = List.replicate n 0 by simp [ofN]]
    exact IRow.made w _ (by have := N4.out; omega)
  go_enter Try.func95, Try.ntmps95
  go_wp2_with (at_make; refine wpList_make_row _ rfl _ _ 48 rfl 3 i0 (.int .i64 0) Try.underlying48 hi hz0 hz1 rfl .i64 .i64 n rfl rfl (by rw [hz2]; have := N4.out; omega) (by have := N4.out; omega) ?_)
  go_loopw [1] (fun i wr => ∃ k j : Nat, k + j = m ∧ i = .int .i64 (j : Nat) ∧ IRow wr w.heap.size n n (ofN (arrP (arrW xs) n k)) ∧ Below w.heap.size w wr) (fun i _ => (intOf i).toNat)
  case atStart => exact ⟨0, m, by omega, rfl, O1.out, (Below.refl _ _).alloc (Nat.le_refl _) _⟩
  case round =>
    obtain ⟨k, j, hkj, rfl, hr1, hbel⟩ := hrel
    have A1 := hid hr1
    have HB := hid hbel
    have HKJ := hid hkj
    clear hr1 hbel hkj O1
    by_cases hj : 0 < j
    · obtain ⟨S, hS⟩ : ∃ S, S = arrP (arrW xs) n k := ⟨_, rfl⟩
      have hcs : Counts xs S := by rw [hS, HN.out]; exact arr_counts HG.out (by have := HM.out; have := HKJ.out; omega)
      have HCs := hid hcs
      rw [← hS] at A1
      have HST : Hid (∀ b, b = bestN (fun t => arrW xs t (S.getD t 0)) n → arrP (arrW xs) n (k + 1) = addAt S b 1) := fun b hb => by
        show addAt (arrP (arrW xs) n k) (bestN (fun t => arrW xs t ((arrP (arrW xs) n k).getD t 0)) n) 1 = _
        rw [← hS, ← hb]
      have HJ := hid hj
      have dj : decide ((0 : Int) < (j : Int)) = true := by rw [decide_eq_true_eq]; omega
      clear hS hcs
      go_wp2
      go_loopw [6, 19] (fun b i w2 => ∃ t : Nat, t ≤ n ∧ i = .int .i64 t ∧ b = .int .i64 (bestN (fun t => arrW xs t (S.getD t 0)) t : Nat) ∧ IRow w2 w.heap.size n n (ofN S) ∧ Below w.heap.size w w2) (fun _ i _ => n - (intOf i).toNat)
      case atStart => exact ⟨0, by omega, rfl, rfl, A1.out, HB.out⟩
      case round =>
        obtain ⟨t, ht, rfl, rfl, hq1, hbel2⟩ := hrel
        have D1 := hid hq1
        have HB2 := hid hbel2
        clear hq1 hbel2 A1 HB
        have h4 := N4.out
        by_cases hth : t < n
        · have hs : bestN (fun t => arrW xs t (S.getD t 0)) (t + 1) = if (fun t => arrW xs t (S.getD t 0)) t < (fun t => arrW xs t (S.getD t 0)) (bestN (fun t => arrW xs t (S.getD t 0)) t) then t else bestN (fun t => arrW xs t (S.getD t 0)) t := rfl
          have hbt : bestN (fun t => arrW xs t (S.getD t 0)) t < n := by
            rcases Nat.eq_zero_or_pos t with e | e
            · rw [e]; exact N1.out
            · exact Nat.lt_of_lt_of_le (bestN_lt _ t e) ht
          obtain ⟨b, hb⟩ : ∃ b, b = bestN (fun t => arrW xs t (S.getD t 0)) t := ⟨_, rfl⟩
          rw [← hb] at hs hbt ⊢
          obtain ⟨x, hx⟩ : ∃ x, x = arrW xs t (S.getD t 0) := ⟨_, rfl⟩
          obtain ⟨y, hy⟩ : ∃ y, y = arrW xs b (S.getD b 0) := ⟨_, rfl⟩
          have HS : Hid (bestN (fun t => arrW xs t (S.getD t 0)) (t + 1) = if x < y then t else b) := by show _ = _; rw [hs, hx, hy]
          obtain ⟨ct, hct⟩ : ∃ ct, ct = S.getD t 0 := ⟨_, rfl⟩
          obtain ⟨cb, hcb⟩ : ∃ cb, cb = S.getD b 0 := ⟨_, rfl⟩
          have kt : wr.cell? ⟨w.heap.size, t, none⟩ = some (.int .i64 (ct : Nat)) := by have := D1.out.cell (i := t) hth; rw [ofN_atW, ← hct] at this; exact this
          have kb : wr.cell? ⟨w.heap.size, b, none⟩ = some (.int .i64 (cb : Nat)) := by have := D1.out.cell (i := b) hbt; rw [ofN_atW, ← hcb] at this; exact this
          have h40t := HCs.out.small t (by rw [← HN.out]; exact hth)
          have h40b := HCs.out.small b (by rw [← HN.out]; exact hbt)
          rw [← hct] at h40t hx
          rw [← hcb] at h40b hy
          obtain ⟨z1, z2⟩ := arrW_int HG.out (k := t) (c := ct) (by rw [← HN.out]; exact hth) (by omega)
          obtain ⟨z3, z4⟩ := arrW_int HG.out (k := b) (c := cb) (by rw [← HN.out]; exact hbt) (by omega)
          rw [← hx] at z2
          rw [← hy] at z4
          obtain ⟨g0, o0, c0, e0, y0⟩ := (R0.out.below HB2.out).cells t (by rw [← HN.out]; exact hth)
          rw [← HN.out] at e0
          cases e0
          obtain ⟨u0, u1⟩ := y0 t (by rw [← HN.out]; exact hth)
          obtain ⟨u2, u3⟩ := y0 b (by rw [← HN.out]; exact hbt)
          obtain ⟨p, hp⟩ : ∃ p, p = (xs.getD t (0, 0)).1 := ⟨_, rfl⟩
          obtain ⟨q, hq⟩ : ∃ q, q = (xs.getD t (0, 0)).2 := ⟨_, rfl⟩
          obtain ⟨p', hp'⟩ : ∃ p, p = (xs.getD b (0, 0)).1 := ⟨_, rfl⟩
          obtain ⟨q', hq'⟩ : ∃ q, q = (xs.getD b (0, 0)).2 := ⟨_, rfl⟩
          rw [← hp] at u0 z2
          rw [← hq] at u1 z1 z2
          rw [← hp'] at u2 z4
          rw [← hq'] at u3 z3 z4
          obtain ⟨pr, hpr⟩ : ∃ pr, pr = (ct : Int) * q := ⟨_, rfl⟩
          obtain ⟨pr', hpr'⟩ : ∃ pr, pr = (cb : Int) * q' := ⟨_, rfl⟩
          rw [← hpr] at z2
          rw [← hpr'] at z4
          have w1r : IntKind.i64.wrap ((ct : Int) * q) = pr := by rw [hpr]; exact z1
          have w3r : IntKind.i64.wrap ((cb : Int) * q') = pr' := by rw [hpr']; exact z3
          have PV1 := (boxL_new wr [.int .i64 p, .int .i64 q] 108)
          have PV2 := (boxL_new (wr.alloc (.cells #[.int .i64 p, .int .i64 q] 108)) [.int .i64 p', .int .i64 q'] 108)
          rw [World.size_alloc] at PV2
          have PV3 := PV1.below ((Below.refl (wr.alloc (.cells #[.int .i64 p, .int .i64 q] 108)).heap.size (wr.alloc (.cells #[.int .i64 p, .int .i64 q] 108))).alloc (Nat.le_refl _) (.cells #[.int .i64 p', .int .i64 q'] 108)) (by simp)
          obtain ⟨v0, v1⟩ := PV3.two
          obtain ⟨v2, v3⟩ := PV2.two
          have V0 : ((wr.alloc (.cells #[.int .i64 p, .int .i64 q] 108)).alloc (.cells #[.int .i64 p', .int .i64 q'] 108)).cell? ⟨wr.heap.size, 0, none⟩ = some (.int .i64 p) := v0
          have V1 : ((wr.alloc (.cells #[.int .i64 p, .int .i64 q] 108)).alloc (.cells #[.int .i64 p', .int .i64 q'] 108)).cell? ⟨wr.heap.size, 1, none⟩ = some (.int .i64 q) := v1
          have V2 : ((wr.alloc (.cells #[.int .i64 p, .int .i64 q] 108)).alloc (.cells #[.int .i64 p', .int .i64 q'] 108)).cell? ⟨wr.heap.size + 1, 0, none⟩ = some (.int .i64 p') := v2
          have V3 : ((wr.alloc (.cells #[.int .i64 p, .int .i64 q] 108)).alloc (.cells #[.int .i64 p', .int .i64 q'] 108)).cell? ⟨wr.heap.size + 1, 1, none⟩ = some (.int .i64 q') := v3
          have BA : Hid (Below wr.heap.size wr ((wr.alloc (.cells #[.int .i64 p, .int .i64 q] 108)).alloc (.cells #[.int .i64 p', .int .i64 q'] 108))) := ((Below.refl _ _).alloc (Nat.le_refl _) _).alloc (by simp) _
          have kt2 := (BA.out.cell (p := ⟨w.heap.size, t, none⟩) (lt_of_cell kt)).trans kt
          have kb2 := (BA.out.cell (p := ⟨w.heap.size, b, none⟩) (lt_of_cell kb)).trans kb
          have B3 : Hid (Below w.heap.size w ((wr.alloc (.cells #[.int .i64 p, .int .i64 q] 108)).alloc (.cells #[.int .i64 p', .int .i64 q'] 108))) := HB2.out.trans (BA.out.mono HB2.out.size)
          have D3 := hid (D1.out.whole BA.out)
          have u2' := ((Below.refl wr.heap.size wr).alloc (Nat.le_refl _) (.cells #[.int .i64 p, .int .i64 q] 108)).cell (p := ⟨g0, o0 + b * 2, none⟩) (lt_of_cell u2)
          have u3' := ((Below.refl wr.heap.size wr).alloc (Nat.le_refl _) (.cells #[.int .i64 p, .int .i64 q] 108)).cell (p := ⟨g0, o0 + b * 2 + 1, none⟩) (lt_of_cell u3)
          rw [u2] at u2'
          rw [u3] at u3'
          have n0 : (0 : Int) ≤ (t : Int) := by omega
          have n1 : (t : Int) < (n : Int) := by omega
          have n2 : (0 : Int) ≤ (b : Int) := by omega
          have n3 : (b : Int) < (n : Int) := by omega
          clear hs hx hy hb y0 hp hq hp' hq' hpr hpr' z1 z3 hct hcb PV1 PV2 PV3 v0 v1 v2 v3
          by_cases hcc : x < y
          · have d1 : decide ((x : Int) < (y : Int)) = true := by simpa using hcc
            have HN1 : Hid (bestN (fun t => arrW xs t (S.getD t 0)) (t + 1) = t) := by show _ = _; rw [HS.out, if_pos hcc]
            go_wp2_with fail
            go_quiet (fail)
            go_wp2
            go_roundw
            case rel => exact ⟨t + 1, by omega, by go_num, by rw [HN1.out], D3.out.at rfl, B3.out.trans ⟨rfl, rfl, rfl, Nat.le_refl _, fun _ _ => rfl⟩⟩
            case measure => simp [intOf]; omega
          · have d1 : decide ((x : Int) < (y : Int)) = false := by simpa using hcc
            have HN1 : Hid (bestN (fun t => arrW xs t (S.getD t 0)) (t + 1) = b) := by show _ = _; rw [HS.out, if_neg hcc]
            go_wp2_with fail
            go_quiet (fail)
            go_wp2
            go_roundw
            case rel => exact ⟨t + 1, by omega, by go_num, by rw [HN1.out], D3.out.at rfl, B3.out.trans ⟨rfl, rfl, rfl, Nat.le_refl _, fun _ _ => rfl⟩⟩
            case measure => simp [intOf]; omega
        · have heq : t = n := by omega
          have HE := hid heq
          clear heq
          obtain ⟨b, hb⟩ : ∃ b, b = bestN (fun t => arrW xs t (S.getD t 0)) t := ⟨_, rfl⟩
          rw [← hb]
          have hbn : b < n := by rw [hb, HE.out]; exact bestN_lt _ n N1.out
          have hst := HST.out b (by rw [hb, HE.out])
          have h40b := HCs.out.small b (by rw [← HN.out]; exact hbn)
          obtain ⟨s, hs⟩ : ∃ s, s = S.getD b 0 := ⟨_, rfl⟩
          rw [← hs] at h40b
          obtain ⟨u, hu⟩ : ∃ u, u = s + 1 := ⟨_, rfl⟩
          have wr1 : IntKind.i64.wrap ((s : Int) + 1) = (u : Int) := by rw [IntKind.wrap_i64]; omega
          have xs' : wr.cell? ⟨w.heap.size, b, none⟩ = some (.int .i64 (s : Nat)) := by have := D1.out.cell (i := b) hbn; rw [ofN_atW, ← hs] at this; exact this
          have fs : wr.frozen? ⟨w.heap.size, b, none⟩ = false := D1.out.free b
          have E1 : Hid (IRow (wr.setCell ⟨w.heap.size, b, none⟩ (.int .i64 (u : Nat))) w.heap.size n n (ofN (arrP (arrW xs) n (k + 1)))) := by
            have := D1.out.set b (u : Nat)
            rw [ofN_setW, hu, hs] at this
            rw [hst, hu, hs]
            exact this
          have B2 : Hid (Below w.heap.size w (wr.setCell ⟨w.heap.size, b, none⟩ (.int .i64 (u : Nat)))) := HB2.out.setCell (Nat.le_refl _) _
          obtain ⟨j1, hj1⟩ : ∃ j1, j1 = j - 1 := ⟨_, rfl⟩
          have hjj := HJ.out
          have hm40 := HM.out
          have hkj := HKJ.out
          have wj : IntKind.i64.wrap ((j : Int) - 1) = (j1 : Int) := by rw [IntKind.wrap_i64]; omega
          have n4 : (0 : Int) ≤ (b : Int) := by omega
          have n5 : (b : Int) < (n : Int) := by omega
          clear hb hst hs hu ht
          go_wp2
          go_roundw
          case rel => exact ⟨k + 1, j1, by omega, by first | rfl | rw [hj1], E1.out, B2.out⟩
          case measure => simp [intOf]; omega
    · have hj0 : j = 0 := by omega
      have hkm : k = m := by have := HKJ.out; omega
      have dj : decide ((0 : Int) < (j : Int)) = false := by rw [decide_eq_false_iff_not]; omega
      rw [hkm] at A1
      clear hj0 hkm
      go_wp2
      go_ret
      exact ⟨_, rfl, A1.out.own (by have := N4.out; omega) (Nat.le_refl _) A1.out.caps.2.2, HB.out⟩
set_option maxHeartbeats 4000000 in
theorem sarriveFn_no (v : Value) (xs : List WyEl) (m : Int) (w : World) (h0 : WyReads w v xs) (hn : aaB xs m = false) :
    Calls Try.prog 41 #[v, .int .i64 m] w fun e w' => ∃ u0, e = .returned (.tuple #[u0, .int .i64 0, .bool false]) ∧ KOwn w.heap.size w'.heap.size w' u0 [] ∧ Below w.heap.size w w' := by
  have R0 := hid h0
  obtain ⟨b1, hb1⟩ : ∃ b, wyB xs = b := ⟨_, rfl⟩
  obtain ⟨b2, hb2⟩ : ∃ b, decide (0 ≤ m ∧ m ≤ 40) = b := ⟨_, rfl⟩
  unfold aaB at hn
  rw [hb1, hb2] at hn
  have HB1 := hid hb1
  have HB2 := hid hb2
  have HNo := hid hn
  clear hb1 hb2 hn h0
  go_enter Try.func41, Try.ntmps41
  go_wp2_with fail
  refine (sways_eq _ xs b1 HB1.out _ R0.out).mono ?_
  rintro e w1 ⟨rfl, hb⟩
  have B1 := hid hb
  clear hb
  cases b1
  · go_wp2
    go_ret3
    exact ⟨_, rfl, kown_nil _ _ _ _ _, B1.out⟩
  have hv : b2 = false := by have := HNo.out; simpa using this
  subst hv
  go_wp2_with fail
  refine (l1In_eq m 0 40 false HB2.out _).mono ?_
  rintro e w' ⟨rfl, hw⟩; obtain rfl := hw.symm
  go_wp2
  go_ret3
  exact ⟨_, rfl, kown_nil _ _ _ _ _, B1.out⟩
set_option maxHeartbeats 4000000 in
theorem sarriveFn_yes (v : Value) (xs : List WyEl) (m : Nat) (w : World) (h0 : WyReads w v xs) (hw : wyB xs = true) (hm : m ≤ 40) :
    Calls Try.prog 41 #[v, .int .i64 (m : Nat)] w fun e w' => ∃ u0, e = .returned (.tuple #[u0, .int .i64 (laN xs (arrP (arrW xs) xs.length m) : Nat), .bool true]) ∧ KOwn w.heap.size w'.heap.size w' u0 (ofN (arrP (arrW xs) xs.length m)) ∧ Below w.heap.size w w' := by
  have R0 := hid h0
  have HG := hid (gways_of hw)
  have HB1 := hid hw
  have HM := hid hm
  have HB2 : Hid (decide (0 ≤ (m : Int) ∧ (m : Int) ≤ 40) = true) := by show _ = _; rw [decide_eq_true_eq]; omega
  obtain ⟨r, hr⟩ : ∃ r, laN xs (arrP (arrW xs) xs.length m) = r := ⟨_, rfl⟩
  have HR := hid hr
  rw [hr]
  clear hr hw hm h0
  go_enter Try.func41, Try.ntmps41
  go_wp2_with fail
  refine (sways_eq _ xs true HB1.out _ R0.out).mono ?_
  rintro e w1 ⟨rfl, hb⟩
  have B1 := hid hb
  clear hb
  go_wp2_with fail
  refine (l1In_eq (m : Int) 0 40 true HB2.out _).mono ?_
  rintro e w' ⟨rfl, hw⟩; obtain rfl := hw.symm
  go_wp2_with fail
  refine (sarrive_eq _ xs m _ (R0.out.below B1.out) HG.out HM.out).mono ?_
  rintro e w2 ⟨u, rfl, hown, hb2⟩
  have O2 := hid hown
  have B2 : Hid (Below w.heap.size w w2) := B1.out.trans (hb2.mono B1.out.size)
  have hs := B1.out.size
  clear hown hb2
  go_wp2_with fail
  refine (slast_eq _ _ xs (arrP (arrW xs) xs.length m) HG.out (arr_counts HG.out HM.out) _ (R0.out.below B2.out) O2.out.reads).mono ?_
  rintro e w3 ⟨rfl, hb3⟩
  rw [HR.out]
  have B3 : Hid (Below w.heap.size w w3) := B2.out.trans (hb3.mono B2.out.size)
  have O3 : Hid (KOwn w.heap.size w3.heap.size w3 u (ofN (arrP (arrW xs) xs.length m))) := (O2.out.below hb3).mono hs hb3.size
  clear hb3
  go_wp2
  go_ret3
  exact ⟨_, rfl, O3.out, B3.out⟩
theorem sarriveFn_any (v : Value) (xs : List WyEl) (m : Int) (w : World) (h0 : WyReads w v xs) :
    Calls Try.prog 41 #[v, .int .i64 m] w fun e w' => ∃ u0, e = .returned (.tuple #[u0, .int .i64 (aaZ xs m), .bool (aaB xs m)]) ∧ KOwn w.heap.size w'.heap.size w' u0 (aaL xs m) ∧ Below w.heap.size w w' := by
  cases hg : aaB xs m with
  | false => rw [aaZ_no hg, aaL_no hg]; exact sarriveFn_no v xs m w h0 hg
  | true =>
    obtain ⟨k, rfl, hk, hw, _⟩ := aa_of hg
    rw [aaZ_yes hg, aaL_yes hg]
    exact sarriveFn_yes v xs k w h0 hw hk
end Go.Proofs.Ytflhlinkolbbiae
