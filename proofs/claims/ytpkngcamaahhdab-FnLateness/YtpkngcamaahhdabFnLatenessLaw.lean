/-
  The law FnLateness answers true at all bytes, where impl's functions tell what they should.
-/
import Derived.Test.YtpkngcamaahhdabCon5
import Derived.Test.YtpkngcamaahhdabDrawCompletionsOf
import Derived.Test.YtpkngcamaahhdabSameInts
import Derived.Test.YtpkngcamaahhdabCodeRow
import Derived.Test.YtpkngcamaahhdabSLaten
import Derived.Test.YtpkngcamaahhdabSFns5
import Derived.Test.YtpkngcamaahhdabSComp
namespace Go.Proofs.Ytpkngcamaahhdab
open Go.RowKit

structure ListTells (f : Nat) : Prop where
  no : ∀ (v : Value) (xs : List TkEl) (w : World), TkReads w v xs → goodT xs = false → Calls Try.prog f #[v] w fun e w' => ∃ u0, e = .returned (.tuple #[u0, .bool false]) ∧ KOwn w.heap.size w'.heap.size w' u0 [] ∧ Below w.heap.size w w'
  yes : ∀ (v : Value) (xs : List TkEl) (w : World), TkReads w v xs → goodT xs = true → Calls Try.prog f #[v] w fun e w' => ∃ u0, e = .returned (.tuple #[u0, .bool true]) ∧ KOwn w.heap.size w'.heap.size w' u0 (ofN (byEndL xs)) ∧ Below w.heap.size w w'
structure DoneTells (f : Nat) : Prop where
  no : ∀ (v vo : Value) (xs : List TkEl) (ys : List Int) (w : World), TkReads w v xs → KReads w vo ys → (goodT xs && ordB xs.length ys) = false → Calls Try.prog f #[v, vo] w fun e w' => ∃ u0, e = .returned (.tuple #[u0, .bool false]) ∧ KOwn w.heap.size w'.heap.size w' u0 [] ∧ Below w.heap.size w w'
  yes : ∀ (v vo : Value) (xs : List TkEl) (os : List Nat) (w : World), TkReads w v xs → KReads w vo (ofN os) → goodT xs = true → os.Perm (List.range xs.length) → Calls Try.prog f #[v, vo] w fun e w' => ∃ u0, e = .returned (.tuple #[u0, .bool true]) ∧ KOwn w.heap.size w'.heap.size w' u0 (doneL xs os) ∧ Below w.heap.size w w'
theorem code_after {w w' : World} {v : Value} (h : CodeOk w.heap.size w v) (hb : Below w.heap.size w w') : CodeOk w'.heap.size w' v := by
  obtain ⟨a, len, cap, rfl, hlen, hx⟩ := h
  refine ⟨a, len, cap, rfl, hlen, ?_⟩
  rcases hx with hx | ⟨cb, off, rfl, hlt, hc⟩
  · exact .inl hx
  · exact .inr ⟨cb, off, rfl, Nat.lt_of_lt_of_le hlt hb.size, fun i hi => by
      obtain ⟨x, hx, hc⟩ := hc i hi
      exact ⟨x, hx, (hb.cell (p := ⟨cb, off + i, none⟩) hlt).trans hc⟩⟩
theorem latN_le {xs : List TkEl} (hg : goodT xs = true) {os : List Nat} (ho : os.Perm (List.range xs.length)) : latN xs (byEndL xs) ≤ latN xs os := by
  unfold latN
  by_cases h : xs.length = 0
  · rw [if_pos h, if_pos h]; exact Int.le_refl _
  · rw [if_neg h, if_neg h]
    exact most_le (needT_nonneg hg) (by omega) (byEnd_perm _ _) (byEnd_ends _ _) ho
theorem done_sum {xs : List TkEl} {os : List Nat} (ho : os.Perm (List.range xs.length)) (h0 : 0 < xs.length) : doneAt (needT xs) 0 os (os.getD (xs.length - 1) 0) = sumL (needT xs) (List.range xs.length) := by
  obtain ⟨hn, hl, _⟩ := perm_facts ho
  have e : os = os.take (xs.length - 1) ++ [os.getD (xs.length - 1) 0] := by
    have := take_next (a := os) (i := xs.length - 1) (by omega)
    rw [show xs.length - 1 + 1 = os.length by omega, List.take_length] at this
    exact this
  have h1 : doneAt (needT xs) 0 (os.take (xs.length - 1) ++ [os.getD (xs.length - 1) 0]) (os.getD (xs.length - 1) 0) = sumL (needT xs) (os.take (xs.length - 1) ++ [os.getD (xs.length - 1) 0]) := done_last (by rw [← e]; exact hn)
  rw [← e] at h1
  rw [h1]
  exact sumL_perm ho
theorem ends_rise (xs : List TkEl) {k : Nat} (h1 : 1 ≤ k) (hk : k < xs.length) : endT xs ((byEndL xs).getD (k - 1) 0) ≤ endT xs ((byEndL xs).getD k 0) := by
  have hl : (byEndL xs).length = xs.length := by rw [byEndL, byEnd_len]
  have := List.pairwise_iff_getElem.1 (byEnd_ends (endT xs) xs.length) (k - 1) k (by rw [byEnd_len]; omega) (by rw [byEnd_len]; exact hk) (by omega)
  have e1 : (byEndL xs).getD (k - 1) 0 = (byEnd (endT xs) xs.length)[k - 1]'(by rw [byEnd_len]; omega) := by simp [byEndL, List.getD_eq_getElem?_getD, byEnd_len, show k - 1 < xs.length by omega]
  have e2 : (byEndL xs).getD k 0 = (byEnd (endT xs) xs.length)[k]'(by rw [byEnd_len]; exact hk) := by simp [byEndL, List.getD_eq_getElem?_getD, byEnd_len, hk]
  rw [e1, e2]
  exact this
set_option maxRecDepth 100000 in
set_option maxHeartbeats 40000000 in
theorem FnLateness_law (a0 : Option Addr) (len0 cap0 : Nat) (z0 : List Int) (a1 : Option Addr) (len1 cap1 : Nat) (z1 : List Int) (w : World) (h0 : IsRow .u8 w a0 len0 cap0 z0) (h1 : IsRow .u8 w a1 len1 cap1 z1) (b0 : cap0 * 1 ≤ 140737488351232) (b1 : cap1 * 1 ≤ 140737488351232)
    (TL : NumTells 27 latN) (TE : ListTells 29) (TD : DoneTells 32) :
    Calls Try.prog 5 #[.slice a0 len0 cap0, .slice a1 len1 cap1] w fun e w' => e = .returned (.bool true) ∧ Below w.heap.size w w' := by
  have l0 : len0 ≤ cap0 := by rcases h0 with ⟨_, rfl, rfl, _⟩ | ⟨x, _, h, _⟩ <;> omega
  have l1 : len1 ≤ cap1 := by rcases h1 with ⟨_, rfl, rfl, _⟩ | ⟨x, _, h, _⟩ <;> omega
  by_cases hbig : (1048576 : Int) < (len0 : Int) + (len1 : Int)
  · clear h0 h1
    go_enter Try.func5, Try.ntmps5
    go_wp2
    go_ret
    exact ⟨rfl, Below.refl _ _⟩
  have HC0 := hid (code_of_row h0 (by omega))
  have HC1 := hid (code_of_row h1 (by omega))
  clear h0 h1
  go_enter Try.func5, Try.ntmps5
  go_wp2_with fail
  refine (drawLat_any _ _ HC0.out).mono ?_
  rintro e w1 ⟨v5, v6, rfl, xs, ys, hx, hy, o5, o6, b⟩
  have B := hid b
  have RT := hid o5.reads
  have RO := hid o6.reads
  clear b o5 o6 HC0 hy
  obtain ⟨axs, cxs, rfl, _, _⟩ := RT.out
  have HTL := hid TL
  have HTE := hid TE
  have HTD := hid TD
  clear TL TE TD
  by_cases hg : goodT xs = false
  · have HG := hid hg
    have HN : Hid ((goodT xs && ordB xs.length ys) = false) := by show _ = _; rw [hg]; rfl
    clear hg
    go_wp2_with fail
    refine (HTL.out.no _ _ xs ys _ RT.out RO.out HN.out).mono ?_
    rintro e w2 ⟨rfl, b⟩
    replace RT := hid (RT.out.below b)
    replace RO := hid (RO.out.below b)
    replace B : Hid (Below w.heap.size w w2) := B.out.trans (b.mono B.out.size)
    clear b
    go_wp2_with fail
    refine (slaten_no _ _ xs ys _ RT.out RO.out HN.out).mono ?_
    rintro e w3 ⟨rfl, b⟩
    replace RT := hid (RT.out.below b)
    replace RO := hid (RO.out.below b)
    replace B : Hid (Below w.heap.size w w3) := B.out.trans (b.mono B.out.size)
    clear b
    go_wp2_with fail
    refine (HTE.out.no _ xs _ RT.out HG.out).mono ?_
    rintro e w4 ⟨uRM, rfl, o, b⟩
    have RM := hid o.reads
    clear o
    replace RT := hid (RT.out.below b)
    replace RO := hid (RO.out.below b)
    replace B : Hid (Below w.heap.size w w4) := B.out.trans (b.mono B.out.size)
    clear b
    go_wp2_with fail
    refine (sbyendfn_no _ xs _ RT.out HG.out).mono ?_
    rintro e w5 ⟨uRS, rfl, o, b⟩
    have RS := hid o.reads
    clear o
    replace RT := hid (RT.out.below b)
    replace RO := hid (RO.out.below b)
    replace RM := hid (RM.out.below b)
    replace B : Hid (Below w.heap.size w w5) := B.out.trans (b.mono B.out.size)
    clear b
    go_wp2_with fail
    refine (sameInts_same _ _ _ _ RM.out.r RS.out.r).mono ?_
    rintro e w6 ⟨rfl, b⟩
    replace RT := hid (RT.out.below b)
    replace B : Hid (Below w.heap.size w w6) := B.out.trans (b.mono B.out.size)
    clear b
    clear RT RO RM RS
    go_wp2_with fail
    refine (drawCompletionsOf_any _ _ (code_after HC1.out B.out)).mono ?_
    rintro e wA ⟨v8, v9, rfl, xt, yt, hxt, hyt, o8, o9, b⟩
    have RT := hid o8.reads
    have RO := hid o9.reads
    have HYT := hid hyt
    replace B : Hid (Below w.heap.size w wA) := B.out.trans (b.mono B.out.size)
    clear b o8 o9 hyt
    obtain ⟨ax, cx, rfl, _, _⟩ := RT.out
    by_cases hn : (goodT xt && ordB xt.length yt) = false
    · have HN := hid hn
      clear hn
      go_wp2_with fail
      refine (HTD.out.no _ _ xt yt _ RT.out RO.out HN.out).mono ?_
      rintro e w41 ⟨uRM, rfl, o, b⟩
      have RM := hid o.reads
      clear o
      replace RT := hid (RT.out.below b)
      replace RO := hid (RO.out.below b)
      replace B : Hid (Below w.heap.size w w41) := B.out.trans (b.mono B.out.size)
      clear b
      go_wp2_with fail
      refine (scomp_no _ _ xt yt _ RT.out RO.out HN.out).mono ?_
      rintro e w42 ⟨uRS, rfl, o, b⟩
      have RS := hid o.reads
      clear o
      replace RT := hid (RT.out.below b)
      replace RO := hid (RO.out.below b)
      replace RM := hid (RM.out.below b)
      replace B : Hid (Below w.heap.size w w42) := B.out.trans (b.mono B.out.size)
      clear b
      go_wp2_with fail
      refine (sameInts_same _ _ _ _ RM.out.r RS.out.r).mono ?_
      rintro e w43 ⟨rfl, b⟩
      replace RT := hid (RT.out.below b)
      replace B : Hid (Below w.heap.size w w43) := B.out.trans (b.mono B.out.size)
      clear b
      go_wp2
      go_ret
      exact ⟨by first | rfl | simp, B.out⟩
    · have hn' : goodT xt = true ∧ ordB xt.length yt = true := by simpa using hn
      obtain ⟨hg, hord⟩ := hn'
      obtain ⟨ot, hot, hperm⟩ := ordB_of hord
      subst hot
      have HG2 := hid hg
      have HP2 := hid hperm
      have hlen2 := goodT_len hg
      have HOL : Hid ((ofN ot).length = xt.length) := HYT
      obtain ⟨ao, co, eo, _, _⟩ := RO.out
      rw [HOL.out] at eo
      subst eo
      clear hn hg hord hperm HYT
      go_wp2_with fail
      refine (HTD.out.yes _ _ xt ot _ RT.out RO.out HG2.out HP2.out).mono ?_
      rintro e w41 ⟨uRM, rfl, o, b⟩
      have RM := hid o.reads
      clear o
      replace RT := hid (RT.out.below b)
      replace RO := hid (RO.out.below b)
      replace B : Hid (Below w.heap.size w w41) := B.out.trans (b.mono B.out.size)
      clear b
      go_wp2_with fail
      refine (scomp_yes _ _ xt ot _ RT.out RO.out HG2.out HP2.out).mono ?_
      rintro e w42 ⟨uRS, rfl, o, b⟩
      have RS := hid o.reads
      clear o
      replace RT := hid (RT.out.below b)
      replace RO := hid (RO.out.below b)
      replace RM := hid (RM.out.below b)
      replace B : Hid (Below w.heap.size w w42) := B.out.trans (b.mono B.out.size)
      clear b
      go_wp2_with fail
      refine (sameInts_same _ _ _ _ RM.out.r RS.out.r).mono ?_
      rintro e w43 ⟨rfl, b⟩
      replace RT := hid (RT.out.below b)
      replace RO := hid (RO.out.below b)
      replace RM := hid (RM.out.below b)
      replace B : Hid (Below w.heap.size w w43) := B.out.trans (b.mono B.out.size)
      clear b
      by_cases hz : xt.length = 0
      · have hdz : decide ((xt.length : Int) > 0) = false := by rw [decide_eq_false_iff_not]; omega
        have hzi : (xt.length : Int) ≤ 0 := by omega
        clear hz
        go_wp2
        go_ret
        exact ⟨by first | rfl | simp, B.out⟩
      · have hpos : 0 < xt.length := by omega
        have hposi : (0 : Int) < (xt.length : Int) := by omega
        clear hz
        have HSUM := hid (done_sum HP2.out hpos)
        obtain ⟨hpn, hpl, hpk⟩ := perm_facts HP2.out
        have HPL := hid hpl
        have HPK := hid hpk
        clear hpn hpl hpk
        have HDL := hid (length_doneL' xt ot)
        obtain ⟨gm, om, cm, em, hcm⟩ := RM.out.cells 0 (by rw [HDL.out]; exact hpos)
        rw [HDL.out] at em
        subst em
        have HCM : Hid (∀ k, k < xt.length → w43.cell? ⟨gm, om + k, none⟩ = some (.int .i64 (doneAt (needT xt) 0 ot k))) := fun k hk => by
          have := hcm k (by rw [HDL.out]; exact hk)
          rw [doneL_get' hk] at this
          exact this
        obtain ⟨gt, ogt, ct, et, hct⟩ := RT.out.cells 0 hpos
        cases et
        have HCT : Hid (∀ k, k < xt.length → w43.cell? ⟨gt, ogt + k * 2, none⟩ = some (.int .i64 (needT xt k)) ∧ w43.cell? ⟨gt, ogt + k * 2 + 1, none⟩ = some (.int .i64 (endT xt k))) := fun k hk => hct k hk
        obtain ⟨go, oo, co', eo, hco⟩ := RO.out.cells 0 (by rw [HOL.out]; exact hpos)
        rw [HOL.out] at eo
        cases eo
        have hcl := hco (xt.length - 1) (by rw [HOL.out]; omega)
        rw [ofN_get (by rw [HPL.out]; omega)] at hcl
        obtain ⟨j, hj⟩ : ∃ j, j = ot.getD (xt.length - 1) 0 := ⟨_, rfl⟩
        have hjl : j < xt.length := by rw [hj]; exact HPK.out _ (getD_mem (by rw [HPL.out]; omega))
        rw [← hj] at hcl HSUM
        have HCL : Hid (w43.cell? ⟨go, oo + (xt.length - 1), none⟩ = some (.int .i64 (j : Nat))) := hcl
        have ngt : gt < w43.heap.size := lt_of_cell (HCT.out 0 hpos).1
        have ngm : gm < w43.heap.size := lt_of_cell (HCM.out 0 hpos)
        have ngo : go < w43.heap.size := lt_of_cell HCL.out
        clear hcm hct hco hcl hj
        go_wp2
        go_loopw [24, 154] (fun t i wz => ∃ k : Nat, k ≤ xt.length ∧ i = .int .i64 k ∧ t = .int .i64 (sumL (needT xt) (List.range k)) ∧ Below w43.heap.size w43 wz) (fun _ i _ => xt.length - (intOf i).toNat)
        case atStart => exact ⟨0, Nat.zero_le _, rfl, rfl, by first | exact Below.refl _ _ | simp⟩
        case round =>
          obtain ⟨k, hk, rfl, rfl, hbz⟩ := hrel
          have HZ := hid hbz
          have hszz := hbz.size
          clear hbz
          by_cases hkl : k < xt.length
          · have c0 := (HZ.out.cell (p := ⟨gt, ogt + k * 2, none⟩) ngt).trans (HCT.out k hkl).1
            have c1 := (HZ.out.cell (p := ⟨gt, ogt + k * 2 + 1, none⟩) ngt).trans (HCT.out k hkl).2
            have HS := hid (sumL_range (needT xt) k)
            have hb := sumL_in HG2.out (List.range k) (fun y hy => by have := List.mem_range.1 hy; omega)
            rw [List.length_range] at hb
            have hnd := goodT_at HG2.out k hkl
            obtain ⟨p, hp⟩ : ∃ p, p = needT xt k := ⟨_, rfl⟩
            obtain ⟨q, hq⟩ : ∃ q, q = endT xt k := ⟨_, rfl⟩
            obtain ⟨s, hs⟩ : ∃ s, s = sumL (needT xt) (List.range k) := ⟨_, rfl⟩
            rw [← hp] at c0 HS hnd
            rw [← hq] at c1
            rw [← hs] at HS hb ⊢
            have hw1 : IntKind.i64.wrap (s + p) = s + p := by rw [IntKind.wrap_i64]; omega
            clear hp hq hs hnd hb
            go_wp2
            go_roundw
            case rel => exact ⟨k + 1, by omega, by go_num, by rw [HS.out], HZ.out.alloc (by omega) _⟩
            case measure => simp [intOf]; omega
          · obtain rfl : k = xt.length := by omega
            have d0 := (HZ.out.cell (p := ⟨go, oo + (xt.length - 1), none⟩) ngo).trans HCL.out
            have d1 := (HZ.out.cell (p := ⟨gm, om + j, none⟩) ngm).trans (HCM.out j hjl)
            rw [HSUM.out] at d1
            obtain ⟨s, hs⟩ : ∃ s, s = sumL (needT xt) (List.range xt.length) := ⟨_, rfl⟩
            obtain ⟨l1x, hl1⟩ : ∃ l, l = xt.length - 1 := ⟨_, rfl⟩
            rw [← hs] at d1 ⊢
            rw [← hl1] at d0
            have hw2 : IntKind.i64.wrap ((xt.length : Int) - 1) = (l1x : Int) := by rw [IntKind.wrap_i64]; omega
            have q0 : (0 : Int) ≤ (l1x : Int) := by omega
            have q1 : (l1x : Int) < (xt.length : Int) := by omega
            have q2 : (0 : Int) ≤ (j : Int) := by omega
            have q3 : (j : Int) < (xt.length : Int) := by omega
            have BF : Hid (Below w.heap.size w wr) := B.out.trans (HZ.out.mono B.out.size)
            clear hs hl1
            go_wp2
            go_ret
            exact ⟨by first | rfl | simp, BF.out⟩
  · have HG : Hid (goodT xs = true) := by show _ = _; simpa using hg
    have hlen := goodT_len HG.out
    clear hg
    by_cases hord : ordB xs.length ys = false
    · have HN : Hid ((goodT xs && ordB xs.length ys) = false) := by show _ = _; rw [HG.out, Bool.true_and]; exact hord
      clear hord
      obtain ⟨Mx, hMx⟩ : ∃ M, M = latN xs (byEndL xs) := ⟨_, rfl⟩
      have HMX := hid hMx
      clear hMx
      have HPE : Hid ((byEndL xs).Perm (List.range xs.length)) := byEnd_perm _ _
      have HBL : Hid ((ofN (byEndL xs)).length = xs.length) := by show _ = _; rw [ofN, List.length_map, byEndL, byEnd_len]
      have HBE : Hid ((byEndL xs).length = xs.length) := by show _ = _; rw [byEndL, byEnd_len]
      go_wp2_with fail
      refine (HTL.out.no _ _ xs ys _ RT.out RO.out HN.out).mono ?_
      rintro e w2 ⟨rfl, b⟩
      replace RT := hid (RT.out.below b)
      replace RO := hid (RO.out.below b)
      replace B : Hid (Below w.heap.size w w2) := B.out.trans (b.mono B.out.size)
      clear b
      go_wp2_with fail
      refine (slaten_no _ _ xs ys _ RT.out RO.out HN.out).mono ?_
      rintro e w3 ⟨rfl, b⟩
      replace RT := hid (RT.out.below b)
      replace RO := hid (RO.out.below b)
      replace B : Hid (Below w.heap.size w w3) := B.out.trans (b.mono B.out.size)
      clear b
      go_wp2_with fail
      refine (HTE.out.yes _ xs _ RT.out HG.out).mono ?_
      rintro e w4 ⟨uRM, rfl, o, b⟩
      have RM := hid o.reads
      clear o
      replace RT := hid (RT.out.below b)
      replace RO := hid (RO.out.below b)
      replace B : Hid (Below w.heap.size w w4) := B.out.trans (b.mono B.out.size)
      clear b
      obtain ⟨ae, ce, ee, _, _⟩ := RM.out
      rw [HBL.out] at ee
      subst ee
      go_wp2_with fail
      refine (sbyendfn_yes _ xs _ RT.out HG.out).mono ?_
      rintro e w5 ⟨uRS, rfl, o, b⟩
      have RS := hid o.reads
      clear o
      replace RT := hid (RT.out.below b)
      replace RO := hid (RO.out.below b)
      replace RM := hid (RM.out.below b)
      replace B : Hid (Below w.heap.size w w5) := B.out.trans (b.mono B.out.size)
      clear b
      go_wp2_with fail
      refine (sameInts_same _ _ _ _ RM.out.r RS.out.r).mono ?_
      rintro e w6 ⟨rfl, b⟩
      replace RT := hid (RT.out.below b)
      replace RM := hid (RM.out.below b)
      replace B : Hid (Below w.heap.size w w6) := B.out.trans (b.mono B.out.size)
      clear b
      go_wp2_with fail
      refine (HTL.out.yes _ _ xs (byEndL xs) _ RT.out RM.out HG.out HPE.out).mono ?_
      simp only [← HMX.out]
      rintro e w7 ⟨rfl, b⟩
      replace RT := hid (RT.out.below b)
      replace RM := hid (RM.out.below b)
      replace B : Hid (Below w.heap.size w w7) := B.out.trans (b.mono B.out.size)
      clear b
      clear RO RS HMX HN
      go_wp2
      go_loopw [17] (fun i wz => ∃ k : Nat, 1 ≤ k ∧ (k ≤ xs.length ∨ k = 1) ∧ i = .int .i64 k ∧ Below w7.heap.size w7 wz) (fun i _ => xs.length - (intOf i).toNat)
      case atStart => exact ⟨1, by omega, .inr rfl, rfl, by first | exact Below.refl _ _ | simp⟩
      case round =>
        obtain ⟨k, hk1, hk2, rfl, hbz⟩ := hrel
        have HZ := hid hbz
        have hszz := hbz.size
        clear hbz
        by_cases hkl : k < xs.length
        · obtain ⟨ge, oe, ce', ee, hce⟩ := (RM.out.below HZ.out).cells k (by rw [HBL.out]; exact hkl)
          rw [HBL.out] at ee
          cases ee
          obtain ⟨gl, ol, cl', el, hcl⟩ := (RT.out.below HZ.out).cells 0 (by omega)
          cases el
          have HCL : Hid (∀ j, j < xs.length → wr.cell? ⟨gl, ol + j * 2 + 1, none⟩ = some (.int .i64 (endT xs j))) := fun j hj => (hcl j hj).2
          obtain ⟨k1, hk1e⟩ : ∃ k1, k1 = k - 1 := ⟨_, rfl⟩
          have e1 := hce k (by rw [HBL.out]; exact hkl)
          have e2 := hce k1 (by rw [HBL.out]; omega)
          rw [ofN_get (by rw [HBE.out]; omega)] at e1 e2
          have hrise := ends_rise xs hk1 hkl
          rw [← hk1e] at hrise
          have hx1 : (byEndL xs).getD k 0 < xs.length := byEnd_lt (endT xs) xs.length (show (byEndL xs).getD k 0 ∈ byEndL xs from getD_mem (by rw [HBE.out]; exact hkl))
          have hx2 : (byEndL xs).getD k1 0 < xs.length := byEnd_lt (endT xs) xs.length (show (byEndL xs).getD k1 0 ∈ byEndL xs from getD_mem (by rw [HBE.out]; omega))
          obtain ⟨x1, hx1e⟩ : ∃ x, x = (byEndL xs).getD k 0 := ⟨_, rfl⟩
          obtain ⟨x2, hx2e⟩ : ∃ x, x = (byEndL xs).getD k1 0 := ⟨_, rfl⟩
          rw [← hx1e] at e1 hx1 hrise
          rw [← hx2e] at e2 hx2 hrise
          have f1 := HCL.out x1 hx1
          have f2 := HCL.out x2 hx2
          obtain ⟨q1, hq1⟩ : ∃ q, q = endT xs x1 := ⟨_, rfl⟩
          obtain ⟨q2, hq2⟩ : ∃ q, q = endT xs x2 := ⟨_, rfl⟩
          rw [← hq1] at f1 hrise
          rw [← hq2] at f2 hrise
          unfold KCells at e1 e2
          have hdq : decide (q2 > q1) = false := by rw [decide_eq_false_iff_not]; omega
          have hw1 : IntKind.i64.wrap ((k : Int) - 1) = (k1 : Int) := by rw [IntKind.wrap_i64]; omega
          have r0 : (0 : Int) ≤ (k : Int) := by omega
          have r1 : (k : Int) < (xs.length : Int) := by omega
          have r2 : (0 : Int) ≤ (k1 : Int) := by omega
          have r3 : (k1 : Int) < (xs.length : Int) := by omega
          have r4 : (0 : Int) ≤ (x1 : Int) := by omega
          have r5 : (x1 : Int) < (xs.length : Int) := by omega
          have r6 : (0 : Int) ≤ (x2 : Int) := by omega
          have r7 : (x2 : Int) < (xs.length : Int) := by omega
          clear hce hcl hk1e hx1e hx2e hq1 hq2 hrise HCL
          go_wp2_with fail
          go_big_region
          go_wp2
          go_roundw
          case rel => exact ⟨k + 1, by omega, .inl (by omega), by go_num, by first | exact HZ.out.drew | exact HZ.out⟩
          case measure => simp [intOf]; omega
        · have hke : (xs.length : Int) ≤ (k : Int) := by omega
          replace B : Hid (Below w.heap.size w wr) := B.out.trans (HZ.out.mono B.out.size)
          clear HZ RT RM
          go_wp2_with fail
          refine (drawCompletionsOf_any _ _ (code_after HC1.out B.out)).mono ?_
          rintro e wA ⟨v8, v9, rfl, xt, yt, hxt, hyt, o8, o9, b⟩
          have RT := hid o8.reads
          have RO := hid o9.reads
          have HYT := hid hyt
          replace B : Hid (Below w.heap.size w wA) := B.out.trans (b.mono B.out.size)
          clear b o8 o9 hyt
          obtain ⟨ax, cx, rfl, _, _⟩ := RT.out
          by_cases hn : (goodT xt && ordB xt.length yt) = false
          · have HN := hid hn
            clear hn
            go_wp2_with fail
            refine (HTD.out.no _ _ xt yt _ RT.out RO.out HN.out).mono ?_
            rintro e w41 ⟨uRM, rfl, o, b⟩
            have RM := hid o.reads
            clear o
            replace RT := hid (RT.out.below b)
            replace RO := hid (RO.out.below b)
            replace B : Hid (Below w.heap.size w w41) := B.out.trans (b.mono B.out.size)
            clear b
            go_wp2_with fail
            refine (scomp_no _ _ xt yt _ RT.out RO.out HN.out).mono ?_
            rintro e w42 ⟨uRS, rfl, o, b⟩
            have RS := hid o.reads
            clear o
            replace RT := hid (RT.out.below b)
            replace RO := hid (RO.out.below b)
            replace RM := hid (RM.out.below b)
            replace B : Hid (Below w.heap.size w w42) := B.out.trans (b.mono B.out.size)
            clear b
            go_wp2_with fail
            refine (sameInts_same _ _ _ _ RM.out.r RS.out.r).mono ?_
            rintro e w43 ⟨rfl, b⟩
            replace RT := hid (RT.out.below b)
            replace B : Hid (Below w.heap.size w w43) := B.out.trans (b.mono B.out.size)
            clear b
            go_wp2
            go_ret
            exact ⟨by first | rfl | simp, B.out⟩
          · have hn' : goodT xt = true ∧ ordB xt.length yt = true := by simpa using hn
            obtain ⟨hg, hord⟩ := hn'
            obtain ⟨ot, hot, hperm⟩ := ordB_of hord
            subst hot
            have HG2 := hid hg
            have HP2 := hid hperm
            have hlen2 := goodT_len hg
            have HOL : Hid ((ofN ot).length = xt.length) := HYT
            obtain ⟨ao, co, eo, _, _⟩ := RO.out
            rw [HOL.out] at eo
            subst eo
            clear hn hg hord hperm HYT
            go_wp2_with fail
            refine (HTD.out.yes _ _ xt ot _ RT.out RO.out HG2.out HP2.out).mono ?_
            rintro e w41 ⟨uRM, rfl, o, b⟩
            have RM := hid o.reads
            clear o
            replace RT := hid (RT.out.below b)
            replace RO := hid (RO.out.below b)
            replace B : Hid (Below w.heap.size w w41) := B.out.trans (b.mono B.out.size)
            clear b
            go_wp2_with fail
            refine (scomp_yes _ _ xt ot _ RT.out RO.out HG2.out HP2.out).mono ?_
            rintro e w42 ⟨uRS, rfl, o, b⟩
            have RS := hid o.reads
            clear o
            replace RT := hid (RT.out.below b)
            replace RO := hid (RO.out.below b)
            replace RM := hid (RM.out.below b)
            replace B : Hid (Below w.heap.size w w42) := B.out.trans (b.mono B.out.size)
            clear b
            go_wp2_with fail
            refine (sameInts_same _ _ _ _ RM.out.r RS.out.r).mono ?_
            rintro e w43 ⟨rfl, b⟩
            replace RT := hid (RT.out.below b)
            replace RO := hid (RO.out.below b)
            replace RM := hid (RM.out.below b)
            replace B : Hid (Below w.heap.size w w43) := B.out.trans (b.mono B.out.size)
            clear b
            by_cases hz : xt.length = 0
            · have hdz : decide ((xt.length : Int) > 0) = false := by rw [decide_eq_false_iff_not]; omega
              have hzi : (xt.length : Int) ≤ 0 := by omega
              clear hz
              go_wp2
              go_ret
              exact ⟨by first | rfl | simp, B.out⟩
            · have hpos : 0 < xt.length := by omega
              have hposi : (0 : Int) < (xt.length : Int) := by omega
              clear hz
              have HSUM := hid (done_sum HP2.out hpos)
              obtain ⟨hpn, hpl, hpk⟩ := perm_facts HP2.out
              have HPL := hid hpl
              have HPK := hid hpk
              clear hpn hpl hpk
              have HDL := hid (length_doneL' xt ot)
              obtain ⟨gm, om, cm, em, hcm⟩ := RM.out.cells 0 (by rw [HDL.out]; exact hpos)
              rw [HDL.out] at em
              subst em
              have HCM : Hid (∀ k, k < xt.length → w43.cell? ⟨gm, om + k, none⟩ = some (.int .i64 (doneAt (needT xt) 0 ot k))) := fun k hk => by
                have := hcm k (by rw [HDL.out]; exact hk)
                rw [doneL_get' hk] at this
                exact this
              obtain ⟨gt, ogt, ct, et, hct⟩ := RT.out.cells 0 hpos
              cases et
              have HCT : Hid (∀ k, k < xt.length → w43.cell? ⟨gt, ogt + k * 2, none⟩ = some (.int .i64 (needT xt k)) ∧ w43.cell? ⟨gt, ogt + k * 2 + 1, none⟩ = some (.int .i64 (endT xt k))) := fun k hk => hct k hk
              obtain ⟨go, oo, co', eo, hco⟩ := RO.out.cells 0 (by rw [HOL.out]; exact hpos)
              rw [HOL.out] at eo
              cases eo
              have hcl := hco (xt.length - 1) (by rw [HOL.out]; omega)
              rw [ofN_get (by rw [HPL.out]; omega)] at hcl
              obtain ⟨j, hj⟩ : ∃ j, j = ot.getD (xt.length - 1) 0 := ⟨_, rfl⟩
              have hjl : j < xt.length := by rw [hj]; exact HPK.out _ (getD_mem (by rw [HPL.out]; omega))
              rw [← hj] at hcl HSUM
              have HCL : Hid (w43.cell? ⟨go, oo + (xt.length - 1), none⟩ = some (.int .i64 (j : Nat))) := hcl
              have ngt : gt < w43.heap.size := lt_of_cell (HCT.out 0 hpos).1
              have ngm : gm < w43.heap.size := lt_of_cell (HCM.out 0 hpos)
              have ngo : go < w43.heap.size := lt_of_cell HCL.out
              clear hcm hct hco hcl hj
              go_wp2
              go_loopw [24, 154] (fun t i wz => ∃ k : Nat, k ≤ xt.length ∧ i = .int .i64 k ∧ t = .int .i64 (sumL (needT xt) (List.range k)) ∧ Below w43.heap.size w43 wz) (fun _ i _ => xt.length - (intOf i).toNat)
              case atStart => exact ⟨0, Nat.zero_le _, rfl, rfl, by first | exact Below.refl _ _ | simp⟩
              case round =>
                obtain ⟨k, hk, rfl, rfl, hbz⟩ := hrel
                have HZ := hid hbz
                have hszz := hbz.size
                clear hbz
                by_cases hkl : k < xt.length
                · have c0 := (HZ.out.cell (p := ⟨gt, ogt + k * 2, none⟩) ngt).trans (HCT.out k hkl).1
                  have c1 := (HZ.out.cell (p := ⟨gt, ogt + k * 2 + 1, none⟩) ngt).trans (HCT.out k hkl).2
                  have HS := hid (sumL_range (needT xt) k)
                  have hb := sumL_in HG2.out (List.range k) (fun y hy => by have := List.mem_range.1 hy; omega)
                  rw [List.length_range] at hb
                  have hnd := goodT_at HG2.out k hkl
                  obtain ⟨p, hp⟩ : ∃ p, p = needT xt k := ⟨_, rfl⟩
                  obtain ⟨q, hq⟩ : ∃ q, q = endT xt k := ⟨_, rfl⟩
                  obtain ⟨s, hs⟩ : ∃ s, s = sumL (needT xt) (List.range k) := ⟨_, rfl⟩
                  rw [← hp] at c0 HS hnd
                  rw [← hq] at c1
                  rw [← hs] at HS hb ⊢
                  have hw1 : IntKind.i64.wrap (s + p) = s + p := by rw [IntKind.wrap_i64]; omega
                  clear hp hq hs hnd hb
                  go_wp2
                  go_roundw
                  case rel => exact ⟨k + 1, by omega, by go_num, by rw [HS.out], HZ.out.alloc (by omega) _⟩
                  case measure => simp [intOf]; omega
                · obtain rfl : k = xt.length := by omega
                  have d0 := (HZ.out.cell (p := ⟨go, oo + (xt.length - 1), none⟩) ngo).trans HCL.out
                  have d1 := (HZ.out.cell (p := ⟨gm, om + j, none⟩) ngm).trans (HCM.out j hjl)
                  rw [HSUM.out] at d1
                  obtain ⟨s, hs⟩ : ∃ s, s = sumL (needT xt) (List.range xt.length) := ⟨_, rfl⟩
                  obtain ⟨l1x, hl1⟩ : ∃ l, l = xt.length - 1 := ⟨_, rfl⟩
                  rw [← hs] at d1 ⊢
                  rw [← hl1] at d0
                  have hw2 : IntKind.i64.wrap ((xt.length : Int) - 1) = (l1x : Int) := by rw [IntKind.wrap_i64]; omega
                  have q0 : (0 : Int) ≤ (l1x : Int) := by omega
                  have q1 : (l1x : Int) < (xt.length : Int) := by omega
                  have q2 : (0 : Int) ≤ (j : Int) := by omega
                  have q3 : (j : Int) < (xt.length : Int) := by omega
                  have BF : Hid (Below w.heap.size w wr) := B.out.trans (HZ.out.mono B.out.size)
                  clear hs hl1
                  go_wp2
                  go_ret
                  exact ⟨by first | rfl | simp, BF.out⟩
    · replace hord : ordB xs.length ys = true := by simpa using hord
      obtain ⟨os, hos, hperm⟩ := ordB_of hord
      subst hos
      have HP := hid hperm
      have hmn := latN_le HG.out hperm
      clear hord hperm
      obtain ⟨N, hN⟩ : ∃ N, N = latN xs os := ⟨_, rfl⟩
      obtain ⟨Mx, hMx⟩ : ∃ M, M = latN xs (byEndL xs) := ⟨_, rfl⟩
      rw [← hN, ← hMx] at hmn
      have HNN := hid hN
      have HMX := hid hMx
      clear hN hMx
      have hdm : decide (Mx > N) = false := by rw [decide_eq_false_iff_not]; omega
      have HPE : Hid ((byEndL xs).Perm (List.range xs.length)) := byEnd_perm _ _
      have HBL : Hid ((ofN (byEndL xs)).length = xs.length) := by show _ = _; rw [ofN, List.length_map, byEndL, byEnd_len]
      have HBE : Hid ((byEndL xs).length = xs.length) := by show _ = _; rw [byEndL, byEnd_len]
      go_wp2_with fail
      refine (HTL.out.yes _ _ xs os _ RT.out RO.out HG.out HP.out).mono ?_
      simp only [← HNN.out]
      rintro e w2 ⟨rfl, b⟩
      replace RT := hid (RT.out.below b)
      replace RO := hid (RO.out.below b)
      replace B : Hid (Below w.heap.size w w2) := B.out.trans (b.mono B.out.size)
      clear b
      go_wp2_with fail
      refine (slaten_yes _ _ xs os _ RT.out RO.out HG.out HP.out).mono ?_
      simp only [← HNN.out]
      rintro e w3 ⟨rfl, b⟩
      replace RT := hid (RT.out.below b)
      replace RO := hid (RO.out.below b)
      replace B : Hid (Below w.heap.size w w3) := B.out.trans (b.mono B.out.size)
      clear b
      go_wp2_with fail
      refine (HTE.out.yes _ xs _ RT.out HG.out).mono ?_
      rintro e w4 ⟨uRM, rfl, o, b⟩
      have RM := hid o.reads
      clear o
      replace RT := hid (RT.out.below b)
      replace RO := hid (RO.out.below b)
      replace B : Hid (Below w.heap.size w w4) := B.out.trans (b.mono B.out.size)
      clear b
      obtain ⟨ae, ce, ee, _, _⟩ := RM.out
      rw [HBL.out] at ee
      subst ee
      go_wp2_with fail
      refine (sbyendfn_yes _ xs _ RT.out HG.out).mono ?_
      rintro e w5 ⟨uRS, rfl, o, b⟩
      have RS := hid o.reads
      clear o
      replace RT := hid (RT.out.below b)
      replace RO := hid (RO.out.below b)
      replace RM := hid (RM.out.below b)
      replace B : Hid (Below w.heap.size w w5) := B.out.trans (b.mono B.out.size)
      clear b
      go_wp2_with fail
      refine (sameInts_same _ _ _ _ RM.out.r RS.out.r).mono ?_
      rintro e w6 ⟨rfl, b⟩
      replace RT := hid (RT.out.below b)
      replace RM := hid (RM.out.below b)
      replace B : Hid (Below w.heap.size w w6) := B.out.trans (b.mono B.out.size)
      clear b
      go_wp2_with fail
      refine (HTL.out.yes _ _ xs (byEndL xs) _ RT.out RM.out HG.out HPE.out).mono ?_
      simp only [← HMX.out]
      rintro e w7 ⟨rfl, b⟩
      replace RT := hid (RT.out.below b)
      replace RM := hid (RM.out.below b)
      replace B : Hid (Below w.heap.size w w7) := B.out.trans (b.mono B.out.size)
      clear b
      clear RO RS HMX HNN HP
      go_wp2
      go_loopw [17] (fun i wz => ∃ k : Nat, 1 ≤ k ∧ (k ≤ xs.length ∨ k = 1) ∧ i = .int .i64 k ∧ Below w7.heap.size w7 wz) (fun i _ => xs.length - (intOf i).toNat)
      case atStart => exact ⟨1, by omega, .inr rfl, rfl, by first | exact Below.refl _ _ | simp⟩
      case round =>
        obtain ⟨k, hk1, hk2, rfl, hbz⟩ := hrel
        have HZ := hid hbz
        have hszz := hbz.size
        clear hbz
        by_cases hkl : k < xs.length
        · obtain ⟨ge, oe, ce', ee, hce⟩ := (RM.out.below HZ.out).cells k (by rw [HBL.out]; exact hkl)
          rw [HBL.out] at ee
          cases ee
          obtain ⟨gl, ol, cl', el, hcl⟩ := (RT.out.below HZ.out).cells 0 (by omega)
          cases el
          have HCL : Hid (∀ j, j < xs.length → wr.cell? ⟨gl, ol + j * 2 + 1, none⟩ = some (.int .i64 (endT xs j))) := fun j hj => (hcl j hj).2
          obtain ⟨k1, hk1e⟩ : ∃ k1, k1 = k - 1 := ⟨_, rfl⟩
          have e1 := hce k (by rw [HBL.out]; exact hkl)
          have e2 := hce k1 (by rw [HBL.out]; omega)
          rw [ofN_get (by rw [HBE.out]; omega)] at e1 e2
          have hrise := ends_rise xs hk1 hkl
          rw [← hk1e] at hrise
          have hx1 : (byEndL xs).getD k 0 < xs.length := byEnd_lt (endT xs) xs.length (show (byEndL xs).getD k 0 ∈ byEndL xs from getD_mem (by rw [HBE.out]; exact hkl))
          have hx2 : (byEndL xs).getD k1 0 < xs.length := byEnd_lt (endT xs) xs.length (show (byEndL xs).getD k1 0 ∈ byEndL xs from getD_mem (by rw [HBE.out]; omega))
          obtain ⟨x1, hx1e⟩ : ∃ x, x = (byEndL xs).getD k 0 := ⟨_, rfl⟩
          obtain ⟨x2, hx2e⟩ : ∃ x, x = (byEndL xs).getD k1 0 := ⟨_, rfl⟩
          rw [← hx1e] at e1 hx1 hrise
          rw [← hx2e] at e2 hx2 hrise
          have f1 := HCL.out x1 hx1
          have f2 := HCL.out x2 hx2
          obtain ⟨q1, hq1⟩ : ∃ q, q = endT xs x1 := ⟨_, rfl⟩
          obtain ⟨q2, hq2⟩ : ∃ q, q = endT xs x2 := ⟨_, rfl⟩
          rw [← hq1] at f1 hrise
          rw [← hq2] at f2 hrise
          unfold KCells at e1 e2
          have hdq : decide (q2 > q1) = false := by rw [decide_eq_false_iff_not]; omega
          have hw1 : IntKind.i64.wrap ((k : Int) - 1) = (k1 : Int) := by rw [IntKind.wrap_i64]; omega
          have r0 : (0 : Int) ≤ (k : Int) := by omega
          have r1 : (k : Int) < (xs.length : Int) := by omega
          have r2 : (0 : Int) ≤ (k1 : Int) := by omega
          have r3 : (k1 : Int) < (xs.length : Int) := by omega
          have r4 : (0 : Int) ≤ (x1 : Int) := by omega
          have r5 : (x1 : Int) < (xs.length : Int) := by omega
          have r6 : (0 : Int) ≤ (x2 : Int) := by omega
          have r7 : (x2 : Int) < (xs.length : Int) := by omega
          clear hce hcl hk1e hx1e hx2e hq1 hq2 hrise HCL
          go_wp2_with fail
          go_big_region
          go_wp2
          go_roundw
          case rel => exact ⟨k + 1, by omega, .inl (by omega), by go_num, by first | exact HZ.out.drew | exact HZ.out⟩
          case measure => simp [intOf]; omega
        · have hke : (xs.length : Int) ≤ (k : Int) := by omega
          replace B : Hid (Below w.heap.size w wr) := B.out.trans (HZ.out.mono B.out.size)
          clear HZ RT RM
          go_wp2_with fail
          refine (drawCompletionsOf_any _ _ (code_after HC1.out B.out)).mono ?_
          rintro e wA ⟨v8, v9, rfl, xt, yt, hxt, hyt, o8, o9, b⟩
          have RT := hid o8.reads
          have RO := hid o9.reads
          have HYT := hid hyt
          replace B : Hid (Below w.heap.size w wA) := B.out.trans (b.mono B.out.size)
          clear b o8 o9 hyt
          obtain ⟨ax, cx, rfl, _, _⟩ := RT.out
          by_cases hn : (goodT xt && ordB xt.length yt) = false
          · have HN := hid hn
            clear hn
            go_wp2_with fail
            refine (HTD.out.no _ _ xt yt _ RT.out RO.out HN.out).mono ?_
            rintro e w41 ⟨uRM, rfl, o, b⟩
            have RM := hid o.reads
            clear o
            replace RT := hid (RT.out.below b)
            replace RO := hid (RO.out.below b)
            replace B : Hid (Below w.heap.size w w41) := B.out.trans (b.mono B.out.size)
            clear b
            go_wp2_with fail
            refine (scomp_no _ _ xt yt _ RT.out RO.out HN.out).mono ?_
            rintro e w42 ⟨uRS, rfl, o, b⟩
            have RS := hid o.reads
            clear o
            replace RT := hid (RT.out.below b)
            replace RO := hid (RO.out.below b)
            replace RM := hid (RM.out.below b)
            replace B : Hid (Below w.heap.size w w42) := B.out.trans (b.mono B.out.size)
            clear b
            go_wp2_with fail
            refine (sameInts_same _ _ _ _ RM.out.r RS.out.r).mono ?_
            rintro e w43 ⟨rfl, b⟩
            replace RT := hid (RT.out.below b)
            replace B : Hid (Below w.heap.size w w43) := B.out.trans (b.mono B.out.size)
            clear b
            go_wp2
            go_ret
            exact ⟨by first | rfl | simp, B.out⟩
          · have hn' : goodT xt = true ∧ ordB xt.length yt = true := by simpa using hn
            obtain ⟨hg, hord⟩ := hn'
            obtain ⟨ot, hot, hperm⟩ := ordB_of hord
            subst hot
            have HG2 := hid hg
            have HP2 := hid hperm
            have hlen2 := goodT_len hg
            have HOL : Hid ((ofN ot).length = xt.length) := HYT
            obtain ⟨ao, co, eo, _, _⟩ := RO.out
            rw [HOL.out] at eo
            subst eo
            clear hn hg hord hperm HYT
            go_wp2_with fail
            refine (HTD.out.yes _ _ xt ot _ RT.out RO.out HG2.out HP2.out).mono ?_
            rintro e w41 ⟨uRM, rfl, o, b⟩
            have RM := hid o.reads
            clear o
            replace RT := hid (RT.out.below b)
            replace RO := hid (RO.out.below b)
            replace B : Hid (Below w.heap.size w w41) := B.out.trans (b.mono B.out.size)
            clear b
            go_wp2_with fail
            refine (scomp_yes _ _ xt ot _ RT.out RO.out HG2.out HP2.out).mono ?_
            rintro e w42 ⟨uRS, rfl, o, b⟩
            have RS := hid o.reads
            clear o
            replace RT := hid (RT.out.below b)
            replace RO := hid (RO.out.below b)
            replace RM := hid (RM.out.below b)
            replace B : Hid (Below w.heap.size w w42) := B.out.trans (b.mono B.out.size)
            clear b
            go_wp2_with fail
            refine (sameInts_same _ _ _ _ RM.out.r RS.out.r).mono ?_
            rintro e w43 ⟨rfl, b⟩
            replace RT := hid (RT.out.below b)
            replace RO := hid (RO.out.below b)
            replace RM := hid (RM.out.below b)
            replace B : Hid (Below w.heap.size w w43) := B.out.trans (b.mono B.out.size)
            clear b
            by_cases hz : xt.length = 0
            · have hdz : decide ((xt.length : Int) > 0) = false := by rw [decide_eq_false_iff_not]; omega
              have hzi : (xt.length : Int) ≤ 0 := by omega
              clear hz
              go_wp2
              go_ret
              exact ⟨by first | rfl | simp, B.out⟩
            · have hpos : 0 < xt.length := by omega
              have hposi : (0 : Int) < (xt.length : Int) := by omega
              clear hz
              have HSUM := hid (done_sum HP2.out hpos)
              obtain ⟨hpn, hpl, hpk⟩ := perm_facts HP2.out
              have HPL := hid hpl
              have HPK := hid hpk
              clear hpn hpl hpk
              have HDL := hid (length_doneL' xt ot)
              obtain ⟨gm, om, cm, em, hcm⟩ := RM.out.cells 0 (by rw [HDL.out]; exact hpos)
              rw [HDL.out] at em
              subst em
              have HCM : Hid (∀ k, k < xt.length → w43.cell? ⟨gm, om + k, none⟩ = some (.int .i64 (doneAt (needT xt) 0 ot k))) := fun k hk => by
                have := hcm k (by rw [HDL.out]; exact hk)
                rw [doneL_get' hk] at this
                exact this
              obtain ⟨gt, ogt, ct, et, hct⟩ := RT.out.cells 0 hpos
              cases et
              have HCT : Hid (∀ k, k < xt.length → w43.cell? ⟨gt, ogt + k * 2, none⟩ = some (.int .i64 (needT xt k)) ∧ w43.cell? ⟨gt, ogt + k * 2 + 1, none⟩ = some (.int .i64 (endT xt k))) := fun k hk => hct k hk
              obtain ⟨go, oo, co', eo, hco⟩ := RO.out.cells 0 (by rw [HOL.out]; exact hpos)
              rw [HOL.out] at eo
              cases eo
              have hcl := hco (xt.length - 1) (by rw [HOL.out]; omega)
              rw [ofN_get (by rw [HPL.out]; omega)] at hcl
              obtain ⟨j, hj⟩ : ∃ j, j = ot.getD (xt.length - 1) 0 := ⟨_, rfl⟩
              have hjl : j < xt.length := by rw [hj]; exact HPK.out _ (getD_mem (by rw [HPL.out]; omega))
              rw [← hj] at hcl HSUM
              have HCL : Hid (w43.cell? ⟨go, oo + (xt.length - 1), none⟩ = some (.int .i64 (j : Nat))) := hcl
              have ngt : gt < w43.heap.size := lt_of_cell (HCT.out 0 hpos).1
              have ngm : gm < w43.heap.size := lt_of_cell (HCM.out 0 hpos)
              have ngo : go < w43.heap.size := lt_of_cell HCL.out
              clear hcm hct hco hcl hj
              go_wp2
              go_loopw [24, 154] (fun t i wz => ∃ k : Nat, k ≤ xt.length ∧ i = .int .i64 k ∧ t = .int .i64 (sumL (needT xt) (List.range k)) ∧ Below w43.heap.size w43 wz) (fun _ i _ => xt.length - (intOf i).toNat)
              case atStart => exact ⟨0, Nat.zero_le _, rfl, rfl, by first | exact Below.refl _ _ | simp⟩
              case round =>
                obtain ⟨k, hk, rfl, rfl, hbz⟩ := hrel
                have HZ := hid hbz
                have hszz := hbz.size
                clear hbz
                by_cases hkl : k < xt.length
                · have c0 := (HZ.out.cell (p := ⟨gt, ogt + k * 2, none⟩) ngt).trans (HCT.out k hkl).1
                  have c1 := (HZ.out.cell (p := ⟨gt, ogt + k * 2 + 1, none⟩) ngt).trans (HCT.out k hkl).2
                  have HS := hid (sumL_range (needT xt) k)
                  have hb := sumL_in HG2.out (List.range k) (fun y hy => by have := List.mem_range.1 hy; omega)
                  rw [List.length_range] at hb
                  have hnd := goodT_at HG2.out k hkl
                  obtain ⟨p, hp⟩ : ∃ p, p = needT xt k := ⟨_, rfl⟩
                  obtain ⟨q, hq⟩ : ∃ q, q = endT xt k := ⟨_, rfl⟩
                  obtain ⟨s, hs⟩ : ∃ s, s = sumL (needT xt) (List.range k) := ⟨_, rfl⟩
                  rw [← hp] at c0 HS hnd
                  rw [← hq] at c1
                  rw [← hs] at HS hb ⊢
                  have hw1 : IntKind.i64.wrap (s + p) = s + p := by rw [IntKind.wrap_i64]; omega
                  clear hp hq hs hnd hb
                  go_wp2
                  go_roundw
                  case rel => exact ⟨k + 1, by omega, by go_num, by rw [HS.out], HZ.out.alloc (by omega) _⟩
                  case measure => simp [intOf]; omega
                · obtain rfl : k = xt.length := by omega
                  have d0 := (HZ.out.cell (p := ⟨go, oo + (xt.length - 1), none⟩) ngo).trans HCL.out
                  have d1 := (HZ.out.cell (p := ⟨gm, om + j, none⟩) ngm).trans (HCM.out j hjl)
                  rw [HSUM.out] at d1
                  obtain ⟨s, hs⟩ : ∃ s, s = sumL (needT xt) (List.range xt.length) := ⟨_, rfl⟩
                  obtain ⟨l1x, hl1⟩ : ∃ l, l = xt.length - 1 := ⟨_, rfl⟩
                  rw [← hs] at d1 ⊢
                  rw [← hl1] at d0
                  have hw2 : IntKind.i64.wrap ((xt.length : Int) - 1) = (l1x : Int) := by rw [IntKind.wrap_i64]; omega
                  have q0 : (0 : Int) ≤ (l1x : Int) := by omega
                  have q1 : (l1x : Int) < (xt.length : Int) := by omega
                  have q2 : (0 : Int) ≤ (j : Int) := by omega
                  have q3 : (j : Int) < (xt.length : Int) := by omega
                  have BF : Hid (Below w.heap.size w wr) := B.out.trans (HZ.out.mono B.out.size)
                  clear hs hl1
                  go_wp2
                  go_ret
                  exact ⟨by first | rfl | simp, BF.out⟩
end Go.Proofs.Ytpkngcamaahhdab
