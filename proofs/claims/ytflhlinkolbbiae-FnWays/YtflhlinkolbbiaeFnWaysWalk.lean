/-
  The law FnWays answers true at every two lists of bytes.
-/
import Derived.Test.YtflhlinkolbbiaeWaysLaw
import Derived.Test.YtflhlinkolbbiaeDrawWyF
import Derived.Test.YtflhlinkolbbiaeCodeRow
import Derived.Test.YtflhlinkolbbiaeSArrive
import Derived.Test.YtflhlinkolbbiaeIArrive
namespace Go.Proofs.Ytflhlinkolbbiae
open Go.RowKit

set_option maxRecDepth 100000 in
set_option maxHeartbeats 40000000 in
theorem FnWays_walk (a0 : Option Addr) (len0 cap0 : Nat) (z0 : List Int) (a1 : Option Addr) (len1 cap1 : Nat) (z1 : List Int) (w : World) (h0 : IsRow .u8 w a0 len0 cap0 z0) (h1 : IsRow .u8 w a1 len1 cap1 z1) (b0 : cap0 * 1 ≤ 140737488351232) (b1 : cap1 * 1 ≤ 140737488351232) :
    Calls Try.prog 5 #[.slice a0 len0 cap0, .slice a1 len1 cap1] w fun e w' => e = .returned (.bool true) ∧ Below w.heap.size w w' := by
  have l0 : len0 ≤ cap0 := by rcases h0 with ⟨_, rfl, rfl, _⟩ | ⟨x, _, h, _⟩ <;> omega
  have l1 : len1 ≤ cap1 := by rcases h1 with ⟨_, rfl, rfl, _⟩ | ⟨x, _, h, _⟩ <;> omega
  by_cases hbig : (1048576 : Int) < (len0 : Int) + (len1 : Int)
  · clear h0 h1
    go_enter Try.func5, Try.ntmps5
    go_wp2
    go_ret
    exact ⟨rfl, Below.refl _ _⟩
  have HC0 := hid (code_of_row h0 (by omega))
  have HC1 := hid (code_of_row h1 (by omega))
  clear h0 h1
  go_enter Try.func5, Try.ntmps5
  go_wp2_with fail
  refine (drawLastA_any _ _ HC0.out).mono ?_
  rintro e w1 ⟨ux, ug, rfl, xs, cs, hrx, hrg, b⟩
  have BE := hid b
  have RX := hid hrx
  have RG := hid hrg
  obtain ⟨ax, px, rfl, _, _⟩ := hrx
  obtain ⟨ag, pg, rfl, _, _⟩ := hrg
  clear b HC0
  generalize xs.length = LX at RX ⊢
  generalize cs.length = LC at RG ⊢
  obtain ⟨n, hn⟩ : ∃ n, laZ xs cs = n := ⟨_, rfl⟩
  obtain ⟨ok, hok⟩ : ∃ b, lcB xs cs = b := ⟨_, rfl⟩
  have C1 : Hid (∀ W, Below w1.heap.size w1 W → Calls Try.prog 36 #[.slice ax LX px, .slice ag LC pg] W fun e w' => e = .returned (.tuple #[.int .i64 n, .bool ok]) ∧ Below W.heap.size W w') := fun W hW => by rw [← hn, ← hok]; exact ilastFn_any _ _ xs cs W (RX.out.below hW) (RG.out.below hW)
  have C2 : Hid (∀ W, Below w1.heap.size w1 W → Calls Try.prog 37 #[.slice ax LX px, .slice ag LC pg] W fun e w' => e = .returned (.tuple #[.int .i64 n, .bool ok]) ∧ Below W.heap.size W w') := fun W hW => by rw [← hn, ← hok]; exact slastFn_any _ _ xs cs W (RX.out.below hW) (RG.out.below hW)
  have HN := hid hn
  have HOK := hid hok
  clear hn hok
  go_wp2_with fail
  refine (C1.out _ (Below.refl _ _)).mono ?_
  rintro e w2 ⟨rfl, hb2⟩
  have B2 := hid hb2
  go_wp2_with fail
  refine (C2.out _ B2.out).mono ?_
  rintro e w3 ⟨rfl, hb3⟩
  have B3 : Hid (Below w1.heap.size w1 w3) := B2.out.trans (hb3.mono B2.out.size)
  clear hb2 hb3 B2 C1 C2
  have hcases : ok = false ∨ ∃ (ns : List Nat) (S : Nat), ok = true ∧ cs = ofN ns ∧ wyB xs = true ∧ Counts xs ns ∧ ns.sum = S := by
    cases ok
    · exact .inl rfl
    · obtain ⟨ns, h1, _, h3⟩ := counts_of HOK.out
      exact .inr ⟨ns, _, rfl, h1, lcB_wy HOK.out, h3, rfl⟩
  rcases hcases with rfl | ⟨ns, S, rfl, rfl, hw, hc, hS⟩
  case' inl =>
    obtain ⟨wE, hwE⟩ : ∃ wE, wE = w3 := ⟨_, rfl⟩
    subst hwE
    have BZ : Hid (Below w.heap.size w wE) := BE.out.trans (B3.out.mono BE.out.size)
    clear RX RG HN HOK
    go_wp2_with fail
  case' inr =>
    have hg := gways_of hw
    have HG := hid hg
    have HCn := hid hc
    have SM : Hid (∀ W, Below w1.heap.size w1 W → Calls Try.prog 38 #[.slice ag LC pg] W fun e w' => e = .returned (.int .i64 (S : Nat)) ∧ w' = W) := fun W hW => sumW_eq _ ns S hS W (RG.out.below hW) (by rw [hc.len]; exact hg.len.2) (fun k hk => hc.small k (by rw [← hc.len]; exact hk))
    have HW := hid hw
    have HS := hid hS
    clear hw hc hS hg
    go_wp2_with fail
    refine (SM.out _ B3.out).mono ?_
    rintro e w' ⟨rfl, hw⟩; obtain rfl := hw.symm
    by_cases hS40 : S ≤ 40
    case' neg =>
      have dS : decide ((S : Int) ≤ 40) = false := by rw [decide_eq_false_iff_not]; omega
      obtain ⟨wE, hwE⟩ : ∃ wE, wE = w3 := ⟨_, rfl⟩
      subst hwE
      have BZ : Hid (Below w.heap.size w wE) := BE.out.trans (B3.out.mono BE.out.size)
      clear RX RG HN HOK SM HW HS HG HCn hS40
      go_wp2_with fail
    case' pos =>
      have dS : decide ((S : Int) ≤ 40) = true := by rw [decide_eq_true_eq]; omega
      have ask := way_ask HW.out HCn.out HS.out hS40
      obtain ⟨C, hC⟩ : ∃ C, arrP (arrW xs) xs.length S = C := ⟨_, rfl⟩
      obtain ⟨m, hm⟩ : ∃ m, laN xs C = m := ⟨_, rfl⟩
      obtain ⟨n', hn'⟩ : ∃ n', laN xs ns = n' := ⟨_, rfl⟩
      have e1 : n = (n' : Int) := by rw [← HN.out, laZ_yes HOK.out, hn']
      subst e1
      have HA : Hid (∀ W, Below w1.heap.size w1 W → Calls Try.prog 39 #[.slice ax LX px, .int .i64 (S : Nat)] W fun e w' => ∃ u0, e = .returned (.tuple #[u0, .int .i64 (m : Nat), .bool true]) ∧ KReads w' u0 (ofN C) ∧ Below W.heap.size W w') := fun W hW => by
        refine (iarriveFn_any _ xs (S : Nat) W (RX.out.below hW)).mono ?_
        rintro e w' ⟨u0, rfl, h2, h3⟩
        rw [aaZ_yes ask.aa, aaL_yes ask.aa, ask.aa, hC, hm] at *
        exact ⟨u0, rfl, h2.reads, h3⟩
      have hla := ask.lc
      have hfi := ask.first
      have hsu := ask.sum
      rw [hC] at hla hfi hsu
      rw [hm, hn'] at hfi
      have hcC : Counts xs C := by rw [← hC]; exact arr_counts HG.out hS40
      have HL : Hid (∀ W v, Below w1.heap.size w1 W → KReads W v (ofN C) → Calls Try.prog 36 #[.slice ax LX px, v] W fun e w' => e = .returned (.tuple #[.int .i64 (m : Nat), .bool true]) ∧ Below W.heap.size W w') := fun W v hW hv => by
        have := ilastFn_any _ _ xs (ofN C) W (RX.out.below hW) hv
        rw [laZ_yes hla, hla, hm] at this
        exact this
      have HSC : Hid (∀ W v, KReads W v (ofN C) → Calls Try.prog 38 #[v] W fun e w' => e = .returned (.int .i64 (S : Nat)) ∧ w' = W) := fun W v hv => sumW_eq v C S (by rw [hsu]) W hv (by rw [hcC.len]; exact HG.out.len.2) (fun k hk => hcC.small k (by rw [← hcC.len]; exact hk))
      have dmn : decide ((n' : Int) < (m : Int)) = false := by rw [decide_eq_false_iff_not]; omega
      have dmn2 : ¬ n' < m := by omega
      clear ask hC hm hn' hla hfi hsu hcC HG HCn HW HS HN HOK hS40
      go_wp2_with fail
      refine (SM.out _ B3.out).mono ?_
      rintro e w' ⟨rfl, hw⟩; obtain rfl := hw.symm
      go_wp2_with fail
      refine (HA.out _ B3.out).mono ?_
      rintro e w4 ⟨uc, rfl, hrc, hb4⟩
      have B4 : Hid (Below w1.heap.size w1 w4) := B3.out.trans (hb4.mono B3.out.size)
      have RC := hid hrc
      obtain ⟨ac, pc, rfl, _, _⟩ := hrc
      generalize (ofN C).length = LN at RC ⊢
      clear hb4
      go_wp2_with fail
      refine (HL.out _ _ B4.out RC.out).mono ?_
      rintro e wE ⟨rfl, hb5⟩
      have B5 : Hid (Below w1.heap.size w1 wE) := B4.out.trans (hb5.mono B4.out.size)
      replace RC := hid (RC.out.below hb5)
      clear hb5
      go_wp2_with fail
      refine (HSC.out _ _ RC.out).mono ?_
      rintro e w' ⟨rfl, hw⟩; obtain rfl := hw.symm
      go_wp2_with fail
      refine (SM.out _ B5.out).mono ?_
      rintro e w' ⟨rfl, hw⟩; obtain rfl := hw.symm
      have BZ : Hid (Below w.heap.size w wE) := BE.out.trans (B5.out.mono BE.out.size)
      clear RX RG RC HA HL HSC SM B3 B4 B5
      go_wp2_with fail
  all_goals
    refine (drawArrA_any _ _ (code_afterW HC1.out BZ.out)).mono ?_
    rintro e v1 ⟨uv, z, rfl, ys, hrv, b⟩
    have BV : Hid (Below w.heap.size w v1) := BZ.out.trans (b.mono BZ.out.size)
    have RV := hid hrv
    obtain ⟨av, pv, rfl, _, _⟩ := hrv
    generalize ys.length = LV at RV ⊢
    clear b BZ HC1
    obtain ⟨c, hc⟩ : ∃ b, aaB ys z = b := ⟨_, rfl⟩
    obtain ⟨mz, hmz⟩ : ∃ x, aaZ ys z = x := ⟨_, rfl⟩
    obtain ⟨C', hC'⟩ : ∃ l, aaL ys z = l := ⟨_, rfl⟩
    have A1 : Hid (∀ W, Below v1.heap.size v1 W → Calls Try.prog 39 #[.slice av LV pv, .int .i64 z] W fun e w' => ∃ u0, e = .returned (.tuple #[u0, .int .i64 mz, .bool c]) ∧ KReads w' u0 C' ∧ Below W.heap.size W w') := fun W hW => by
      rw [← hc, ← hmz, ← hC']
      exact (iarriveFn_any _ ys z W (RV.out.below hW)).mono fun e w' ⟨u0, h1, h2, h3⟩ => ⟨u0, h1, h2.reads, h3⟩
    have A2 : Hid (∀ W, Below v1.heap.size v1 W → Calls Try.prog 41 #[.slice av LV pv, .int .i64 z] W fun e w' => ∃ u0, e = .returned (.tuple #[u0, .int .i64 mz, .bool c]) ∧ KReads w' u0 C' ∧ Below W.heap.size W w') := fun W hW => by
      rw [← hc, ← hmz, ← hC']
      exact (sarriveFn_any _ ys z W (RV.out.below hW)).mono fun e w' ⟨u0, h1, h2, h3⟩ => ⟨u0, h1, h2.reads, h3⟩
    have HCc := hid hc
    have HMZ := hid hmz
    have HCL := hid hC'
    clear hc hmz hC'
    go_wp2_with fail
    refine (A1.out _ (Below.refl _ _)).mono ?_
    rintro e v2 ⟨uA, rfl, hrA, hb⟩
    have D2 := hid hb
    have KA := hid hrA
    obtain ⟨aA, pA, rfl, _, _⟩ := hrA
    generalize C'.length = LA at KA ⊢
    clear hb
    go_wp2_with fail
    refine (A2.out _ D2.out).mono ?_
    rintro e v3 ⟨uB, rfl, hrB, hb⟩
    have D3 : Hid (Below v1.heap.size v1 v3) := D2.out.trans (hb.mono D2.out.size)
    have KB := hid hrB
    replace KA := hid (KA.out.below hb)
    obtain ⟨aB, pB, rfl, _, _⟩ := hrB
    generalize C'.length = LB at KB ⊢
    clear hb A1 A2 D2
    go_wp2_with fail
    refine (sameInts_dec _ _ C' C' true (by simp) rfl _ KA.out KB.out).mono ?_
    rintro e v4 ⟨rfl, hb⟩
    have D4 : Hid (Below v1.heap.size v1 v4) := D3.out.trans (hb.mono D3.out.size)
    replace KA := hid (KA.out.below hb)
    have BF : Hid (Below w.heap.size w v4) := BV.out.trans (D4.out.mono BV.out.size)
    clear hb KB D3
    cases c
    · go_wp2
      go_ret
      exact ⟨rfl, BF.out⟩
    obtain ⟨kz, hkz, hk40, hwy, hgw⟩ := aa_of HCc.out
    subst hkz
    by_cases hk : kz < 40
    rotate_left
    · have dk : decide ((kz : Int) < 40) = false := by rw [decide_eq_false_iff_not]; omega
      go_wp2
      go_ret
      exact ⟨rfl, BF.out⟩
    have dk : decide ((kz : Int) < 40) = true := by rw [decide_eq_true_eq]; omega
    obtain ⟨k1, hk1⟩ : ∃ k1, k1 = kz + 1 := ⟨_, rfl⟩
    have wk : IntKind.i64.wrap ((kz : Int) + 1) = (k1 : Int) := by rw [IntKind.wrap_i64]; omega
    have hw1 : aaB ys ((k1 : Nat) : Int) = true := by unfold aaB; rw [hwy, Bool.true_and, decide_eq_true_eq]; omega
    obtain ⟨E, hE⟩ : ∃ E, arrP (arrW ys) ys.length k1 = E := ⟨_, rfl⟩
    obtain ⟨F, hF⟩ : ∃ F, arrP (arrW ys) ys.length kz = F := ⟨_, rfl⟩
    have hFl : F.length = ys.length := by rw [← hF]; exact arrP_len _ _ _
    have hEl : E.length = ys.length := by rw [← hE]; exact arrP_len _ _ _
    have hFE : ∀ i, F.getD i 0 ≤ E.getD i 0 := fun i => by rw [← hE, ← hF, hk1]; exact arrP_more (arrW ys) hgw.len.1 kz i
    obtain ⟨me, hme⟩ : ∃ me, laN ys E = me := ⟨_, rfl⟩
    obtain ⟨mf, hmf⟩ : ∃ mf, laN ys F = mf := ⟨_, rfl⟩
    have hmm : mf ≤ me := by rw [← hme, ← hmf, ← hE, ← hF, hk1]; exact lastP_more (arrW ys) (fun k x y h => arrW_mono ys k x y h) hgw.len.1 kz
    have e1 : mz = (mf : Int) := by rw [← HMZ.out, aaZ_yes HCc.out, hF, hmf]
    have e2 : C' = ofN F := by rw [← HCL.out, aaL_yes HCc.out, hF]
    subst e1
    subst e2
    have A3 : Hid (Calls Try.prog 39 #[.slice av LV pv, .int .i64 (k1 : Nat)] v4 fun e w' => ∃ u0, e = .returned (.tuple #[u0, .int .i64 (me : Nat), .bool true]) ∧ KReads w' u0 (ofN E) ∧ Below v4.heap.size v4 w') := by
      have := iarriveFn_any (.slice av LV pv) ys (k1 : Nat) v4 (RV.out.below D4.out)
      rw [aaZ_yes hw1, aaL_yes hw1, hw1, hE, hme] at this
      exact this.mono fun e w' ⟨u0, h1, h2, h3⟩ => ⟨u0, h1, h2.reads, h3⟩
    have dmm : decide ((me : Int) < (mf : Int)) = false := by rw [decide_eq_false_iff_not]; omega
    have dmm2 : ¬ me < mf := by omega
    have h4 := hgw.len.2
    have HLen : Hid (F.length = E.length ∧ F.length ≤ 4) := ⟨by omega, by omega⟩
    have HFE := hid hFE
    have eLA : LA = F.length := by
      obtain ⟨_, _, e, _, _⟩ := KA.out
      injection e with _ e2 _
      rw [e2, List.length_map]
    have HLA := hid eLA
    clear hk1 hw1 hE hF hFl hEl hFE hme hmf hmm hwy hgw HCc HMZ HCL h4 eLA RV D4
    go_wp2_with fail
    refine A3.out.mono ?_
    rintro e v5 ⟨uE, rfl, hrE, hb⟩
    have KE := hid hrE
    replace KA := hid (KA.out.below hb)
    have BG : Hid (Below w.heap.size w v5) := BF.out.trans (hb.mono BF.out.size)
    obtain ⟨aE, pE, rfl, _, _⟩ := hrE
    have e3 : (ofN E).length = LA := by rw [List.length_map, HLA.out]; exact HLen.out.1.symm
    rw [e3] at KE ⊢
    have HL3 := hid e3
    clear hb e3
    go_wp2
    go_loopw [157] (fun i wr => ∃ i' : Nat, i' ≤ LA ∧ i = .int .i64 i' ∧ Below v5.heap.size v5 wr) (fun i _ => LA - (intOf i).toNat)
    case atStart => exact ⟨0, Nat.zero_le _, rfl, Below.refl _ _⟩
    case round =>
      obtain ⟨i, hi, rfl, hq⟩ := hrel
      have BQ := hid hq
      clear hq
      have hl4 := HLen.out.2
      have hla := HLA.out
      have hLA4 : LA ≤ 4 := by omega
      by_cases hlt : i < LA
      · obtain ⟨g1, o1, c1, e1, y1⟩ := (KA.out.below BQ.out).cells i (by rw [List.length_map, ← HLA.out]; exact hlt)
        obtain ⟨g2, o2, c2, e2, y2⟩ := (KE.out.below BQ.out).cells i (by rw [HL3.out]; exact hlt)
        rw [List.length_map, ← HLA.out] at e1
        rw [HL3.out] at e2
        cases e1
        cases e2
        obtain ⟨x, hx⟩ : ∃ x, x = F.getD i 0 := ⟨_, rfl⟩
        obtain ⟨y, hy⟩ : ∃ y, y = E.getD i 0 := ⟨_, rfl⟩
        have cx : wr.cell? ⟨g1, o1 + i, none⟩ = some (.int .i64 (x : Nat)) := by have := y1 i (by rw [List.length_map, ← HLA.out]; exact hlt); rw [ofN_atW, ← hx] at this; exact this
        have cy : wr.cell? ⟨g2, o2 + i, none⟩ = some (.int .i64 (y : Nat)) := by have := y2 i (by rw [HL3.out]; exact hlt); rw [ofN_atW, ← hy] at this; exact this
        have hxy := HFE.out i
        rw [← hx, ← hy] at hxy
        have dxy : decide ((y : Int) < (x : Int)) = false := by rw [decide_eq_false_iff_not]; omega
        have dxy2 : ¬ y < x := by omega
        have n0 : (0 : Int) ≤ (i : Int) := by omega
        have n1 : (i : Int) < (LA : Int) := by omega
        clear y1 y2 hx hy hxy hla
        go_wp2_with fail
        go_quiet (fail)
        go_wp2
        go_roundw
        case rel => exact ⟨i + 1, by omega, by go_num, BQ.out.trans ⟨rfl, rfl, rfl, Nat.le_refl _, fun _ _ => rfl⟩⟩
        case measure => simp [intOf]; omega
      · obtain rfl : i = LA := by omega
        have BH : Hid (Below w.heap.size w wr) := BG.out.trans (BQ.out.mono BG.out.size)
        go_wp2
        go_ret
        exact ⟨rfl, BH.out⟩
end Go.Proofs.Ytflhlinkolbbiae
