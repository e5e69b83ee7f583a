/-
  The law FnBursts answers true at every two lists of bytes.
-/
import Derived.Test.YthmkeinhjlmgmadDrawBursts
import Derived.Test.YthmkeinhjlmgmadIInter
import Derived.Test.YthmkeinhjlmgmadSInter
import Derived.Test.YthmkeinhjlmgmadIDeint
import Derived.Test.YthmkeinhjlmgmadSDeint
import Derived.Test.YthmkeinhjlmgmadIBurst
import Derived.Test.YthmkeinhjlmgmadSBurst
import Derived.Test.YthmkeinhjlmgmadIRowsHit
import Derived.Test.YthmkeinhjlmgmadSRowsHit
import Derived.Test.YthmkeinhjlmgmadHasL
import Derived.Test.YthmkeinhjlmgmadNumOf
import Derived.Test.YthmkeinhjlmgmadSameK
import Derived.Test.YthmkeinhjlmgmadCodeRow
namespace Go.Proofs.Ythmkeinhjlmgmad
open Go.RowKit

theorem code_after12 {w w' : World} {v : Value} (h : CodeOk w.heap.size w v) (hb : Below w.heap.size w w') : CodeOk w'.heap.size w' v := by
  obtain ⟨a, len, cap, rfl, hl, hx⟩ := h.below hb
  refine ⟨a, len, cap, rfl, hl, ?_⟩
  rcases hx with hx | ⟨cb, off, rfl, hlt, hc⟩
  · exact .inl hx
  · exact .inr ⟨cb, off, rfl, Nat.lt_of_lt_of_le hlt hb.size, hc⟩
set_option maxRecDepth 100000 in
set_option maxHeartbeats 40000000 in
theorem FnBursts_walk (a0 : Option Addr) (len0 cap0 : Nat) (z0 : List Int) (a1 : Option Addr) (len1 cap1 : Nat) (z1 : List Int) (w : World) (h0 : IsRow .u8 w a0 len0 cap0 z0) (h1 : IsRow .u8 w a1 len1 cap1 z1) (b0 : cap0 * 1 ≤ 140737488351232) (b1 : cap1 * 1 ≤ 140737488351232) :
    Calls Try.prog 7 #[.slice a0 len0 cap0, .slice a1 len1 cap1] w fun e w' => e = .returned (.bool true) ∧ Below w.heap.size w w' := by
  have l0 : len0 ≤ cap0 := by rcases h0 with ⟨_, rfl, rfl, _⟩ | ⟨x, _, h, _⟩ <;> omega
  have l1 : len1 ≤ cap1 := by rcases h1 with ⟨_, rfl, rfl, _⟩ | ⟨x, _, h, _⟩ <;> omega
  by_cases hbig : (1048576 : Int) < (len0 : Int) + (len1 : Int)
  · clear h0 h1
    go_enter Try.func7, Try.ntmps7
    go_wp2
    go_ret
    exact ⟨rfl, Below.refl _ _⟩
  have HC0 := hid (code_of_row h0 (by omega))
  have HC1 := hid (code_of_row h1 (by omega))
  clear h0 h1
  go_enter Try.func7, Try.ntmps7
  go_wp2_with fail
  refine (drawInter_any _ _ HC0.out).mono ?_
  rintro e w1 ⟨s, d, rfl, hs, b⟩
  have BE := hid b
  clear b HC0
  obtain ⟨T, hT⟩ : ∃ T, ilvT s d = T := ⟨_, rfl⟩
  obtain ⟨t, ht⟩ : ∃ t, deepB s.size d = t := ⟨_, rfl⟩
  have HT := hid hT
  have Ht := hid ht
  go_wp2_with fail
  refine (iinter_any s d _ T t HT.out Ht.out).mono ?_
  rintro e w2 ⟨rfl, bb⟩
  have BE := hid (BE.out.trans (bb.mono BE.out.size))
  clear bb
  go_wp2_with fail
  refine (sinter_any s d _ T t HT.out Ht.out).mono ?_
  rintro e w3 ⟨rfl, bb⟩
  have BE := hid (BE.out.trans (bb.mono BE.out.size))
  clear bb
  cases t
  · clear hT ht HT Ht
    as_aux_lemma =>
      go_wp2_with fail
      refine (drawDeint_any _ _ (code_after12 HC1.out BE.out)).mono ?_
      rintro e v1 ⟨u, dd, rfl, hu, bb⟩
      have BE := hid (BE.out.trans (bb.mono BE.out.size))
      clear bb
      obtain ⟨T1, hT1⟩ : ∃ T, dlvT u dd = T := ⟨_, rfl⟩
      obtain ⟨t1, ht1⟩ : ∃ t, deepB u.size dd = t := ⟨_, rfl⟩
      have HT1 := hid hT1
      have Ht1 := hid ht1
      clear hT1 ht1
      go_wp2_with fail
      refine (ideint_any u dd _ T1 t1 HT1.out Ht1.out).mono ?_
      rintro e v2 ⟨rfl, bb⟩
      have BE := hid (BE.out.trans (bb.mono BE.out.size))
      clear bb
      go_wp2_with fail
      refine (sdeint_any u dd _ T1 t1 HT1.out Ht1.out).mono ?_
      rintro e v3 ⟨rfl, bb⟩
      have BE := hid (BE.out.trans (bb.mono BE.out.size))
      clear bb
      go_wp2_with fail
      refine (drawBurst_any _ _ (code_after12 HC1.out BE.out)).mono ?_
      rintro e v4 ⟨ws, fr, lo, rfl, hws, bb⟩
      have BE := hid (BE.out.trans (bb.mono BE.out.size))
      clear bb
      obtain ⟨T2, hT2⟩ : ∃ T, buT ws fr lo = T := ⟨_, rfl⟩
      obtain ⟨t2, ht2⟩ : ∃ t, buB ws fr lo = t := ⟨_, rfl⟩
      have HT2 := hid hT2
      have Ht2 := hid ht2
      clear hT2 ht2
      go_wp2_with fail
      refine (iburst_any ws fr lo T2 t2 HT2.out Ht2.out (by omega) (WalkArith.wf_i64 (by omega)) _).mono ?_
      rintro e v5 ⟨rfl, bb⟩
      have BE := hid (BE.out.trans (bb.mono BE.out.size))
      clear bb
      go_wp2_with fail
      refine (sburst_any ws fr lo T2 t2 HT2.out Ht2.out (by omega) _).mono ?_
      rintro e v6 ⟨rfl, bb⟩
      have BE := hid (BE.out.trans (bb.mono BE.out.size))
      clear bb
      go_wp2_with fail
      refine (drawHit_any _ _ (code_after12 HC1.out BE.out)).mono ?_
      rintro e v7 ⟨hn, hd, hf, hl, rfl, hh, bb⟩
      have BE := hid (BE.out.trans (bb.mono BE.out.size))
      clear bb
      obtain ⟨Y3, hY3⟩ : ∃ Y, hitL hn hd hf hl = Y := ⟨_, rfl⟩
      obtain ⟨t3, ht3⟩ : ∃ t, hitB hn hd hf hl = t := ⟨_, rfl⟩
      have HY3 := hid hY3
      have Ht3 := hid ht3
      clear hY3 ht3
      go_wp2_with fail
      refine (irows_any hn hd hf hl _ (WalkArith.wf_i64 (by omega)) Y3 t3 HY3.out Ht3.out).mono ?_
      rintro e v8 ⟨u8, rfl, o8, bb⟩
      have BE := hid (BE.out.trans (bb.mono BE.out.size))
      have O8 := hid o8
      clear bb o8
      go_wp2_with fail
      refine (srows_any hn hd hf hl _ Y3 t3 HY3.out Ht3.out).mono ?_
      rintro e v9 ⟨u9, rfl, o9, bb⟩
      have BE := hid (BE.out.trans (bb.mono BE.out.size))
      have R8 := hid (O8.out.below bb).reads
      have R9 := hid o9.reads
      clear bb o9 O8
      have q1 : (t1 == t1) = true := by simp
      have q2 : (t2 == t2) = true := by simp
      have q3 : (t3 == t3) = true := by simp
      go_wp2_with fail
      refine (sameK_same _ _ Y3 _ R8.out R9.out).mono ?_
      rintro e v10 ⟨rfl, hw⟩
      have BE := hid (BE.out.trans ((sameK_below hw).mono BE.out.size))
      clear hw
      go_wp2
      go_ret
      exact ⟨rfl, BE.out⟩
  obtain ⟨dn, c, rfl, g1, g2, g3, g4, g5, g6⟩ := deepB_parts ht
  have HTE : Hid (T = ⟨(colsL s dn c).toArray⟩) := by show _ = _; rw [← hT]; unfold ilvT; rw [ht, if_pos rfl]; simp [g5]
  have HTS : Hid (T.size = s.size) := by show _ = _; rw [HTE.out, g4]; show (colsL s dn c).toArray.size = _; simp [length_colsL]
  have HDT : Hid (dlvT T dn = s) := by
    show _ = _
    unfold dlvT
    rw [HTS.out, ht, if_pos rfl]
    have e1 : (dn : Int).toNat = dn := by simp
    rw [e1, g5, HTE.out, cols_back s dn c g4]
  have HDB : Hid (deepB T.size dn = true) := by show _ = _; rw [HTS.out]; exact ht
  have HG4 := hid g4
  have HG5 := hid g5
  clear hT ht HT g4 g5 g6
  go_wp2_with fail
  refine (ideint_any T dn _ s true HDT.out HDB.out).mono ?_
  rintro e w4 ⟨rfl, bb⟩
  have BE := hid (BE.out.trans (bb.mono BE.out.size))
  clear bb
  by_cases hz : s.size = 0
  · have hz1 : ¬ (0 : Int) < (s.size : Int) := by omega
    have HZ := hid hz
    clear hz
    as_aux_lemma =>
      go_wp2_with fail
      refine (drawDeint_any _ _ (code_after12 HC1.out BE.out)).mono ?_
      rintro e v1 ⟨u, dd, rfl, hu, bb⟩
      have BE := hid (BE.out.trans (bb.mono BE.out.size))
      clear bb
      obtain ⟨T1, hT1⟩ : ∃ T, dlvT u dd = T := ⟨_, rfl⟩
      obtain ⟨t1, ht1⟩ : ∃ t, deepB u.size dd = t := ⟨_, rfl⟩
      have HT1 := hid hT1
      have Ht1 := hid ht1
      clear hT1 ht1
      go_wp2_with fail
      refine (ideint_any u dd _ T1 t1 HT1.out Ht1.out).mono ?_
      rintro e v2 ⟨rfl, bb⟩
      have BE := hid (BE.out.trans (bb.mono BE.out.size))
      clear bb
      go_wp2_with fail
      refine (sdeint_any u dd _ T1 t1 HT1.out Ht1.out).mono ?_
      rintro e v3 ⟨rfl, bb⟩
      have BE := hid (BE.out.trans (bb.mono BE.out.size))
      clear bb
      go_wp2_with fail
      refine (drawBurst_any _ _ (code_after12 HC1.out BE.out)).mono ?_
      rintro e v4 ⟨ws, fr, lo, rfl, hws, bb⟩
      have BE := hid (BE.out.trans (bb.mono BE.out.size))
      clear bb
      obtain ⟨T2, hT2⟩ : ∃ T, buT ws fr lo = T := ⟨_, rfl⟩
      obtain ⟨t2, ht2⟩ : ∃ t, buB ws fr lo = t := ⟨_, rfl⟩
      have HT2 := hid hT2
      have Ht2 := hid ht2
      clear hT2 ht2
      go_wp2_with fail
      refine (iburst_any ws fr lo T2 t2 HT2.out Ht2.out (by omega) (WalkArith.wf_i64 (by omega)) _).mono ?_
      rintro e v5 ⟨rfl, bb⟩
      have BE := hid (BE.out.trans (bb.mono BE.out.size))
      clear bb
      go_wp2_with fail
      refine (sburst_any ws fr lo T2 t2 HT2.out Ht2.out (by omega) _).mono ?_
      rintro e v6 ⟨rfl, bb⟩
      have BE := hid (BE.out.trans (bb.mono BE.out.size))
      clear bb
      go_wp2_with fail
      refine (drawHit_any _ _ (code_after12 HC1.out BE.out)).mono ?_
      rintro e v7 ⟨hn, hd, hf, hl, rfl, hh, bb⟩
      have BE := hid (BE.out.trans (bb.mono BE.out.size))
      clear bb
      obtain ⟨Y3, hY3⟩ : ∃ Y, hitL hn hd hf hl = Y := ⟨_, rfl⟩
      obtain ⟨t3, ht3⟩ : ∃ t, hitB hn hd hf hl = t := ⟨_, rfl⟩
      have HY3 := hid hY3
      have Ht3 := hid ht3
      clear hY3 ht3
      go_wp2_with fail
      refine (irows_any hn hd hf hl _ (WalkArith.wf_i64 (by omega)) Y3 t3 HY3.out Ht3.out).mono ?_
      rintro e v8 ⟨u8, rfl, o8, bb⟩
      have BE := hid (BE.out.trans (bb.mono BE.out.size))
      have O8 := hid o8
      clear bb o8
      go_wp2_with fail
      refine (srows_any hn hd hf hl _ Y3 t3 HY3.out Ht3.out).mono ?_
      rintro e v9 ⟨u9, rfl, o9, bb⟩
      have BE := hid (BE.out.trans (bb.mono BE.out.size))
      have R8 := hid (O8.out.below bb).reads
      have R9 := hid o9.reads
      clear bb o9 O8
      have q1 : (t1 == t1) = true := by simp
      have q2 : (t2 == t2) = true := by simp
      have q3 : (t3 == t3) = true := by simp
      go_wp2_with fail
      refine (sameK_same _ _ Y3 _ R8.out R9.out).mono ?_
      rintro e v10 ⟨rfl, hw⟩
      have BE := hid (BE.out.trans ((sameK_below hw).mono BE.out.size))
      clear hw
      go_wp2
      go_ret
      exact ⟨rfl, BE.out⟩
  have hz1 : (0 : Int) < (s.size : Int) := by omega
  have hz2 : ¬ (s.size : Int) = 0 := by omega
  go_wp2_with fail
  refine (numberOf_any _ _ _ (HC1.out.below BE.out)).mono ?_
  rintro e w' ⟨n1, hn1, rfl, hw⟩; obtain rfl := hw.symm
  obtain ⟨f, hf⟩ : ∃ f, n1 % s.size = f := ⟨_, rfl⟩
  have hfs : f < s.size := by rw [← hf]; exact Nat.mod_lt _ (by omega)
  have e1 : (n1 : Int).tmod (s.size : Int) = (f : Nat) := by rw [Int.tmod_eq_emod_of_nonneg (by omega), ← hf]; rfl
  have e2 : (n1 : Int) % (s.size : Int) = (f : Nat) := by rw [← hf]; rfl
  clear hf
  go_wp2_with fail
  refine (numberOf_any _ _ _ (HC1.out.below BE.out)).mono ?_
  rintro e w' ⟨n2, hn2, rfl, hw⟩; obtain rfl := hw.symm
  obtain ⟨q, hq⟩ : ∃ q, n2 / 13 = q := ⟨_, rfl⟩
  have e3 : (n2 : Int).tdiv 13 = (q : Nat) := by rw [Int.tdiv_eq_ediv_of_nonneg (by omega), ← hq]; rfl
  have e4 : (n2 : Int) / 13 = (q : Nat) := by rw [← hq]; rfl
  obtain ⟨dd1, hdd⟩ : ∃ x, dn + 1 = x := ⟨_, rfl⟩
  have e5 : (dn : Int) + 1 = (dd1 : Nat) := by rw [← hdd]; simp
  have e6 : IntKind.i64.wrap (dd1 : Int) = (dd1 : Nat) := by rw [IntKind.wrap_i64]; omega
  have e7 : ¬ (dd1 : Int) = 0 := by omega
  obtain ⟨k0, hk0⟩ : ∃ k, q % dd1 = k := ⟨_, rfl⟩
  have hk0d : k0 ≤ dn := by have := Nat.mod_lt q (show 0 < dd1 by omega); omega
  have e8 : (q : Int).tmod (dd1 : Int) = (k0 : Nat) := by rw [Int.tmod_eq_emod_of_nonneg (by omega), ← hk0]; rfl
  have e9 : (q : Int) % (dd1 : Int) = (k0 : Nat) := by rw [← hk0]; rfl
  clear hq hdd hk0
  obtain ⟨m0, hm0⟩ : ∃ m, f + k0 = m := ⟨_, rfl⟩
  have e10 : (f : Int) + (k0 : Int) = (m0 : Nat) := by rw [← hm0]; simp
  have e11 : IntKind.i64.wrap (m0 : Int) = (m0 : Nat) := by rw [IntKind.wrap_i64]; omega
  obtain ⟨l, hl, hll⟩ : ∃ l : Nat, l = (if s.size < m0 then s.size - f else k0) ∧ (f + l ≤ s.size ∧ l ≤ dn) := by
    refine ⟨_, rfl, ?_⟩
    by_cases h : s.size < m0
    · rw [if_pos h]; omega
    · rw [if_neg h]; omega
  by_cases hover : s.size < m0
  case' pos =>
    rw [if_pos hover] at hl
    have hov : (s.size : Int) < (m0 : Int) := by omega
    have e12 : (s.size : Int) - (f : Int) = (l : Nat) := by omega
    have e13 : IntKind.i64.wrap (l : Int) = (l : Nat) := by rw [IntKind.wrap_i64]; omega
    have HLL := hid hl
    clear hl
  case' neg =>
    rw [if_neg hover] at hl
    have hov : ¬ (s.size : Int) < (m0 : Int) := by omega
    subst hl
  all_goals
    obtain ⟨hl1, hl2⟩ := hll
    clear hm0
    obtain ⟨BT, hBT⟩ : ∃ X : ByteArray, X = ⟨(buL T f l).toArray⟩ := ⟨_, rfl⟩
    have HB1 : Hid (buB T f l = true) := by show _ = _; unfold buB withB; rw [HTS.out, decide_eq_true_eq]; omega
    have HB2 : Hid (buT T f l = BT) := by show _ = _; unfold buT; rw [HB1.out, if_pos rfl, hBT]; simp
    have hBS : BT.size = s.size := by rw [hBT, buT_size, HTS.out]
    have HBS := hid hBS
    obtain ⟨X, hX⟩ : ∃ X : ByteArray, X = ⟨(colsL BT c dn).toArray⟩ := ⟨_, rfl⟩
    have HX1 : Hid (deepB BT.size dn = true) := by show _ = _; rw [hBS]; exact Ht.out
    have HX2 : Hid (dlvT BT dn = X) := by
      show _ = _
      unfold dlvT
      rw [HX1.out, if_pos rfl, hBS, hX]
      have e1 : (dn : Int).toNat = dn := by simp
      rw [e1, HG5.out]
    have hXS : X.size = s.size := by rw [hX, HG4.out]; show (colsL BT c dn).toArray.size = _; simp [length_colsL, Nat.mul_comm]
    have HDF : Hid (∀ j, j < c * dn → (bt X j ≠ bt s j ↔ f ≤ j % c * dn + j / c ∧ j % c * dn + j / c < f + l)) := fun j hj => by
      rw [hX, hBT, HTE.out]
      exact back_differs s dn c f l j hj
    have HTS2 : Hid (T.size ≤ 120) := by show _ ≤ _; rw [HTS.out]; exact g3
    clear hBT hX hBS
    go_wp2_with fail
    refine (iburst_any T f l BT true HB2.out HB1.out HTS2.out (WalkArith.wf_i64 (by omega)) _).mono ?_
    rintro e w5 ⟨rfl, bb⟩
    have BE := hid (BE.out.trans (bb.mono BE.out.size))
    clear bb
    go_wp2_with fail
    refine (ideint_any BT dn _ X true HX2.out HX1.out).mono ?_
    rintro e w6 ⟨rfl, bb⟩
    have BE := hid (BE.out.trans (bb.mono BE.out.size))
    clear bb
    have HHB : Hid (hitB s.size dn f l = true) := by show _ = _; unfold hitB; rw [Ht.out]; unfold withB; rw [Bool.true_and, decide_eq_true_eq]; omega
    have HHL : Hid (hitL s.size dn f l = rowsU dn f l dn) := by show _ = _; unfold hitL; rw [HHB.out, if_pos rfl]; simp
    go_wp2_with fail
    refine (irows_any s.size dn f l _ (WalkArith.wf_i64 (by omega)) (rowsU dn f l dn) true HHL.out HHB.out).mono ?_
    rintro e w7 ⟨ur, rfl, o7, bb⟩
    have BE := hid (BE.out.trans (bb.mono BE.out.size))
    have hr7 := o7.reads
    obtain ⟨ua, uc, rfl⟩ : ∃ a cap, ur = .slice a l cap := by
      obtain ⟨a, cap, e, _, _⟩ := hr7
      rw [rows_many dn f l hl2 (by omega)] at e
      exact ⟨a, cap, e⟩
    have R7 := hid hr7
    clear bb o7 hr7
    have q1 : ((l : Int) != (l : Int)) = false := by simp
    have e14 : (s.size : Int).tdiv (dn : Int) = (c : Nat) := by rw [Int.tdiv_eq_ediv_of_nonneg (by omega), ← HG5.out]; rfl
    have e15 : (s.size : Int) / (dn : Int) = (c : Nat) := by rw [← HG5.out]; rfl
    have e16 : ¬ (dn : Int) = 0 := by omega
    have hc120 : c ≤ 120 := by have := Nat.le_mul_of_pos_right c g1; have := HG4.out; omega
    have e17 : IntKind.i64.wrap (c : Int) = (c : Nat) := by rw [IntKind.wrap_i64]; omega
    go_wp2
    clear e1 e2 e3 e4 e5 e6 e7 e8 e9 e14 e15
    go_loopw [22] (fun rv wr => ∃ r : Nat, r ≤ dn ∧ rv = .int .i64 (r : Nat) ∧ Below w7.heap.size w7 wr) (fun rv _ => dn - (intOf rv).toNat)
    case atStart => exact ⟨0, Nat.zero_le _, rfl, Below.refl _ _⟩
    case round =>
      obtain ⟨r, hr, rfl, hbel⟩ := hrel
      have HB := hid hbel
      clear hbel
      by_cases hlt : r < dn
      · have hltd : (r : Int) < (dn : Int) := by omega
        have hrc : (r + 1) * c ≤ c * dn := by rw [Nat.mul_comm c dn]; exact Nat.mul_le_mul_right c hlt
        rw [Nat.add_mul, Nat.one_mul] at hrc
        obtain ⟨x, hx⟩ : ∃ x, r * c = x := ⟨_, rfl⟩
        obtain ⟨r1, hr1⟩ : ∃ y, r + 1 = y := ⟨_, rfl⟩
        obtain ⟨y, hy⟩ : ∃ y, x + c = y := ⟨_, rfl⟩
        rw [hx, hy] at hrc
        have a1 : (r : Int) * (c : Int) = (x : Nat) := by rw [← hx]; simp
        have hx66 : x + c ≤ 66 := by have := HG4.out; omega
        have a2 : IntKind.i64.wrap (x : Int) = (x : Nat) := by rw [IntKind.wrap_i64]; omega
        have a3 : (r : Int) + 1 = (r1 : Nat) := by rw [← hr1]; simp
        have a4 : IntKind.i64.wrap (r1 : Int) = (r1 : Nat) := by rw [IntKind.wrap_i64]; omega
        have a5 : (r1 : Int) * (c : Int) = (y : Nat) := by rw [← hr1, ← hy, ← hx]; simp [Int.add_mul]
        have a6 : IntKind.i64.wrap (y : Int) = (y : Nat) := by rw [IntKind.wrap_i64]; omega
        have HR1 := hid hr1
        have HXX := hid hx
        have HYY := hid hy
        clear hx hr1 hy
        go_wp2
        go_loopw [23, 24] (fun nv kv wr' => ∃ i : Nat, i ≤ c ∧ kv = .int .i64 ((x + i : Nat) : Int) ∧ nv = .int .i64 (cntR dn f l r i : Nat) ∧ Below w7.heap.size w7 wr') (fun _ kv _ => x + c - (intOf kv).toNat)
        case atStart => exact ⟨0, Nat.zero_le _, rfl, rfl, HB.out⟩
        case round =>
          obtain ⟨i, hi, rfl, rfl, hbel2⟩ := hrel
          have HB2' := hid hbel2
          clear hbel2
          have hc1 := cntR_le dn f l r hl2 i
          by_cases hic : i < c
          · have HCS : Hid (cntR dn f l r (i + 1) = cntR dn f l r i + (if f ≤ i * dn + r ∧ i * dn + r < f + l then 1 else 0)) := rfl
            obtain ⟨n, hn⟩ : ∃ n, cntR dn f l r i = n := ⟨_, rfl⟩
            rw [hn] at HCS hc1 ⊢
            obtain ⟨p, hp⟩ : ∃ p, x + i = p := ⟨_, rfl⟩
            rw [hp]
            have hps : p < s.size := by have := HG4.out; have := HYY.out; omega
            have hpx : p < X.size := by rw [hXS]; exact hps
            have hpy : (p : Int) < (y : Int) := by have := HYY.out; omega
            have hm : p % c = i := by rw [← hp, ← HXX.out, Nat.mul_comm, Nat.mul_add_mod, Nat.mod_eq_of_lt hic]
            have hdv : p / c = r := by rw [← hp, ← HXX.out, Nat.mul_comm, Nat.mul_add_div (by omega), Nat.div_eq_of_lt hic, Nat.add_zero]
            have hdf := HDF.out p (by rw [← HG4.out]; exact hps)
            rw [hm, hdv, ← bt_eq X p hpx, ← bt_eq s p hps] at hdf
            have HPP := hid hp
            have hp1 : (p : Int) < (X.size : Int) := by omega
            have hp2 : (p : Int) < (s.size : Int) := by omega
            clear hn hp hm hdv
            by_cases hc : f ≤ i * dn + r ∧ i * dn + r < f + l
            · rw [if_pos hc] at HCS
              have hne := hdf.2 hc
              have hv : (((X[p]'hpx).toNat : Int) != ((s[p]'hps).toNat : Int)) = true := by
                rw [bne_iff_ne]
                intro h
                exact hne (UInt8.toNat_inj.1 (by omega))
              clear hc hdf hne
              go_wp2_with fail
              go_region
              all_goals go_wp2
              all_goals go_roundw
              all_goals first
                | exact ⟨i + 1, by omega, by have := HPP.out; go_num, by rw [HCS.out]; go_num, HB2'.out.drew⟩
                | (simp [intOf]; have := HPP.out; omega)
            · rw [if_neg hc] at HCS
              have heq : (X[p]'hpx) = (s[p]'hps) := Classical.byContradiction fun h => hc (hdf.1 h)
              have hv : (((X[p]'hpx).toNat : Int) != ((s[p]'hps).toNat : Int)) = false := by rw [heq]; simp
              clear hc hdf heq
              go_wp2_with fail
              go_region
              all_goals go_wp2
              all_goals go_roundw
              all_goals first
                | exact ⟨i + 1, by omega, by have := HPP.out; go_num, by rw [HCS.out]; go_num, HB2'.out.drew⟩
                | (simp [intOf]; have := HPP.out; omega)
          · obtain rfl : i = c := by omega
            rw [HYY.out]
            have hhit := cntR_hit dn f l r i hlt (by rw [← HG4.out]; exact hl1)
            have HHS := hid (rows_has dn f l r hlt)
            obtain ⟨hb, hhb⟩ : ∃ b, hitU dn f l r = b := ⟨_, rfl⟩
            rw [hhb] at hhit HHS
            obtain ⟨n, hn⟩ : ∃ n, cntR dn f l r i = n := ⟨_, rfl⟩
            rw [hn] at hhit hc1 ⊢
            clear hn hhb
            have hyy : ¬ (y : Int) < (y : Int) := by omega
            cases hb
            · obtain rfl : n = 0 := by
                rcases Nat.eq_zero_or_pos n with h | h
                · exact h
                · exact absurd (hhit.1 h) (by simp)
              clear hhit hc1
              go_wp2_with fail
              refine (lhas_eq _ _ (r : Int) false HHS.out _ (R7.out.below HB2'.out)).mono ?_
              rintro e w' ⟨rfl, hw⟩; obtain rfl := hw.symm
              go_wp2
              go_roundw
              case rel => exact ⟨r + 1, by omega, by have := HR1.out; go_num, HB2'.out⟩
              case measure => simp [intOf]; have := HR1.out; omega
            · obtain rfl : n = 1 := by have := hhit.2 rfl; omega
              clear hhit hc1
              go_wp2_with fail
              refine (lhas_eq _ _ (r : Int) true HHS.out _ (R7.out.below HB2'.out)).mono ?_
              rintro e w' ⟨rfl, hw⟩; obtain rfl := hw.symm
              go_wp2
              go_roundw
              case rel => exact ⟨r + 1, by omega, by have := HR1.out; go_num, HB2'.out⟩
              case measure => simp [intOf]; have := HR1.out; omega
      · have hge : ¬ (r : Int) < (dn : Int) := by omega
        have BE := hid (BE.out.trans (HB.out.mono BE.out.size))
        clear HB R7
        as_aux_lemma =>
          go_wp2_with fail
          refine (drawDeint_any _ _ (code_after12 HC1.out BE.out)).mono ?_
          rintro e v1 ⟨u, dd, rfl, hu, bb⟩
          have BE := hid (BE.out.trans (bb.mono BE.out.size))
          clear bb
          obtain ⟨T1, hT1⟩ : ∃ T, dlvT u dd = T := ⟨_, rfl⟩
          obtain ⟨t1, ht1⟩ : ∃ t, deepB u.size dd = t := ⟨_, rfl⟩
          have HT1 := hid hT1
          have Ht1 := hid ht1
          clear hT1 ht1
          go_wp2_with fail
          refine (ideint_any u dd _ T1 t1 HT1.out Ht1.out).mono ?_
          rintro e v2 ⟨rfl, bb⟩
          have BE := hid (BE.out.trans (bb.mono BE.out.size))
          clear bb
          go_wp2_with fail
          refine (sdeint_any u dd _ T1 t1 HT1.out Ht1.out).mono ?_
          rintro e v3 ⟨rfl, bb⟩
          have BE := hid (BE.out.trans (bb.mono BE.out.size))
          clear bb
          go_wp2_with fail
          refine (drawBurst_any _ _ (code_after12 HC1.out BE.out)).mono ?_
          rintro e v4 ⟨ws, fr, lo, rfl, hws, bb⟩
          have BE := hid (BE.out.trans (bb.mono BE.out.size))
          clear bb
          obtain ⟨T2, hT2⟩ : ∃ T, buT ws fr lo = T := ⟨_, rfl⟩
          obtain ⟨t2, ht2⟩ : ∃ t, buB ws fr lo = t := ⟨_, rfl⟩
          have HT2 := hid hT2
          have Ht2 := hid ht2
          clear hT2 ht2
          go_wp2_with fail
          refine (iburst_any ws fr lo T2 t2 HT2.out Ht2.out (by omega) (WalkArith.wf_i64 (by omega)) _).mono ?_
          rintro e v5 ⟨rfl, bb⟩
          have BE := hid (BE.out.trans (bb.mono BE.out.size))
          clear bb
          go_wp2_with fail
          refine (sburst_any ws fr lo T2 t2 HT2.out Ht2.out (by omega) _).mono ?_
          rintro e v6 ⟨rfl, bb⟩
          have BE := hid (BE.out.trans (bb.mono BE.out.size))
          clear bb
          go_wp2_with fail
          refine (drawHit_any _ _ (code_after12 HC1.out BE.out)).mono ?_
          rintro e v7 ⟨hn, hd, hf, hl, rfl, hh, bb⟩
          have BE := hid (BE.out.trans (bb.mono BE.out.size))
          clear bb
          obtain ⟨Y3, hY3⟩ : ∃ Y, hitL hn hd hf hl = Y := ⟨_, rfl⟩
          obtain ⟨t3, ht3⟩ : ∃ t, hitB hn hd hf hl = t := ⟨_, rfl⟩
          have HY3 := hid hY3
          have Ht3 := hid ht3
          clear hY3 ht3
          go_wp2_with fail
          refine (irows_any hn hd hf hl _ (WalkArith.wf_i64 (by omega)) Y3 t3 HY3.out Ht3.out).mono ?_
          rintro e v8 ⟨u8, rfl, o8, bb⟩
          have BE := hid (BE.out.trans (bb.mono BE.out.size))
          have O8 := hid o8
          clear bb o8
          go_wp2_with fail
          refine (srows_any hn hd hf hl _ Y3 t3 HY3.out Ht3.out).mono ?_
          rintro e v9 ⟨u9, rfl, o9, bb⟩
          have BE := hid (BE.out.trans (bb.mono BE.out.size))
          have R8 := hid (O8.out.below bb).reads
          have R9 := hid o9.reads
          clear bb o9 O8
          have q1 : (t1 == t1) = true := by simp
          have q2 : (t2 == t2) = true := by simp
          have q3 : (t3 == t3) = true := by simp
          go_wp2_with fail
          refine (sameK_same _ _ Y3 _ R8.out R9.out).mono ?_
          rintro e v10 ⟨rfl, hw⟩
          have BE := hid (BE.out.trans ((sameK_below hw).mono BE.out.size))
          clear hw
          go_wp2
          go_ret
          exact ⟨rfl, BE.out⟩
end Go.Proofs.Ythmkeinhjlmgmad
