/-
  The law FnHands answers true at every two lists of bytes.
-/
import Derived.Test.YtflhlinkolbbiaeSoFns
import Derived.Test.YtflhlinkolbbiaeDrawSpO
import Derived.Test.YtflhlinkolbbiaeSumOf
import Derived.Test.YtflhlinkolbbiaeIsRow
import Derived.Test.YtflhlinkolbbiaeSSpanOf
import Derived.Test.YtflhlinkolbbiaeISpanOf
import Derived.Test.YtflhlinkolbbiaeSGiveIn
import Derived.Test.YtflhlinkolbbiaeIGiveIn
import Derived.Test.YtflhlinkolbbiaeSGiveL
import Derived.Test.YtflhlinkolbbiaeIGiveL
import Derived.Test.YtflhlinkolbbiaeSBestFn
import Derived.Test.YtflhlinkolbbiaeIGoodCh
import Derived.Test.YtflhlinkolbbiaeSMost9
import Derived.Test.YtflhlinkolbbiaeILeastFn
namespace Go.Proofs.Ytflhlinkolbbiae
open Go.RowKit

set_option maxRecDepth 100000 in
set_option maxHeartbeats 40000000 in
theorem FnHands_walk (a0 : Option Addr) (len0 cap0 : Nat) (z0 : List Int) (a1 : Option Addr) (len1 cap1 : Nat) (z1 : List Int) (w : World) (h0 : IsRow .u8 w a0 len0 cap0 z0) (h1 : IsRow .u8 w a1 len1 cap1 z1) (b0 : cap0 * 1 ≤ 140737488351232) (b1 : cap1 * 1 ≤ 140737488351232) :
    Calls Try.prog 4 #[.slice a0 len0 cap0, .slice a1 len1 cap1] w fun e w' => e = .returned (.bool true) ∧ Below w.heap.size w w' := by
  have l0 : len0 ≤ cap0 := by rcases h0 with ⟨_, rfl, rfl, _⟩ | ⟨x, _, h, _⟩ <;> omega
  have l1 : len1 ≤ cap1 := by rcases h1 with ⟨_, rfl, rfl, _⟩ | ⟨x, _, h, _⟩ <;> omega
  have d1 : decide ((0 : Int) ≤ (len1 : Int)) = true := by rw [decide_eq_true_eq]; omega
  by_cases hbig : (1048576 : Int) < (len0 : Int) + (len1 : Int)
  · clear h0 h1
    go_enter Try.func4, Try.ntmps4
    go_wp2
    go_ret
    exact ⟨rfl, Below.refl _ _⟩
  have HC0 := hid (code_of_row h0 (by omega))
  clear h0 h1
  go_enter Try.func4, Try.ntmps4
  go_wp2_with fail
  refine (drawSpanOf_any _ _ HC0.out).mono ?_
  rintro e w1 ⟨ux, z, ug, rfl, xs, gs, hrx, hrg, b⟩
  have BE := hid b
  have RX := hid hrx
  have RG := hid hrg
  obtain ⟨ax, px, rfl, _, _⟩ := hrx
  obtain ⟨ag, pg, rfl, _, _⟩ := hrg
  clear b HC0
  have HAsk : Hid (chB xs z = true → HandAsk xs gs z (soN xs gs z) (giN rangeF xs z) (giN longK xs z) (beZ xs z) (leZ xs z) (giL rangeF xs z) (giL longK xs z)) := fun h => hand_ask h
  obtain ⟨n, hn⟩ : ∃ n, soN xs gs z = n := ⟨_, rfl⟩
  obtain ⟨ok, hok⟩ : ∃ b, giB xs gs z = b := ⟨_, rfl⟩
  obtain ⟨s, hs⟩ : ∃ n, giN rangeF xs z = n := ⟨_, rfl⟩
  obtain ⟨t, ht⟩ : ∃ n, giN longK xs z = n := ⟨_, rfl⟩
  obtain ⟨m, hm⟩ : ∃ n, beZ xs z = n := ⟨_, rfl⟩
  obtain ⟨k, hk⟩ : ∃ n, leZ xs z = n := ⟨_, rfl⟩
  obtain ⟨A, hA⟩ : ∃ l, giL rangeF xs z = l := ⟨_, rfl⟩
  obtain ⟨Bl, hB⟩ : ∃ l, giL longK xs z = l := ⟨_, rfl⟩
  obtain ⟨c, hc⟩ : ∃ b, chB xs z = b := ⟨_, rfl⟩
  rw [hn, hs, ht, hm, hk, hA, hB, hc] at HAsk
  have C1 : Hid (∀ W, Below w1.heap.size w1 W → Calls Try.prog 23 #[.slice ax xs.length px, .int .i64 z, .slice ag gs.length pg] W fun e w' => e = .returned (.tuple #[.int .i64 n, .bool ok]) ∧ Below W.heap.size W w') := fun W hW => by rw [← hn, ← hok]; exact ispanOf_any _ _ xs gs z W (RX.out.below hW) (RG.out.below hW)
  have C2 : Hid (∀ W, Below w1.heap.size w1 W → Calls Try.prog 24 #[.slice ax xs.length px, .int .i64 z, .slice ag gs.length pg] W fun e w' => e = .returned (.tuple #[.int .i64 n, .bool ok]) ∧ Below W.heap.size W w') := fun W hW => by rw [← hn, ← hok]; exact sspanOf_any _ _ xs gs z W (RX.out.below hW) (RG.out.below hW)
  have C3 : Hid (∀ W, Below w1.heap.size w1 W → Calls Try.prog 25 #[.slice ax xs.length px, .int .i64 z] W fun e w' => ∃ u0, e = .returned (.tuple #[u0, .int .i64 s, .bool c]) ∧ KReads w' u0 A ∧ Below W.heap.size W w') := fun W hW => by
    rw [← hs, ← hc, ← hA]
    exact (igiveIn_any _ xs z W (RX.out.below hW)).mono fun e w' ⟨u0, h1, h2, h3⟩ => ⟨u0, h1, h2.reads, h3⟩
  have C4 : Hid (∀ W, Below w1.heap.size w1 W → Calls Try.prog 26 #[.slice ax xs.length px, .int .i64 z] W fun e w' => ∃ u0, e = .returned (.tuple #[u0, .int .i64 s, .bool c]) ∧ KReads w' u0 A ∧ Below W.heap.size W w') := fun W hW => by
    rw [← hs, ← hc, ← hA]
    exact (sgiveIn_any _ xs z W (RX.out.below hW)).mono fun e w' ⟨u0, h1, h2, h3⟩ => ⟨u0, h1, h2.reads, h3⟩
  have C5 : Hid (∀ W, Below w1.heap.size w1 W → Calls Try.prog 27 #[.slice ax xs.length px, .int .i64 z] W fun e w' => ∃ u0, e = .returned (.tuple #[u0, .int .i64 t, .bool c]) ∧ KReads w' u0 Bl ∧ Below W.heap.size W w') := fun W hW => by
    rw [← ht, ← hc, ← hB]
    exact (igiveL_any _ xs z W (RX.out.below hW)).mono fun e w' ⟨u0, h1, h2, h3⟩ => ⟨u0, h1, h2.reads, h3⟩
  have C6 : Hid (∀ W, Below w1.heap.size w1 W → Calls Try.prog 28 #[.slice ax xs.length px, .int .i64 z] W fun e w' => ∃ u0, e = .returned (.tuple #[u0, .int .i64 t, .bool c]) ∧ KReads w' u0 Bl ∧ Below W.heap.size W w') := fun W hW => by
    rw [← ht, ← hc, ← hB]
    exact (sgiveL_any _ xs z W (RX.out.below hW)).mono fun e w' ⟨u0, h1, h2, h3⟩ => ⟨u0, h1, h2.reads, h3⟩
  have C7 : Hid (∀ W, Below w1.heap.size w1 W → Calls Try.prog 29 #[.slice ax xs.length px, .int .i64 z] W fun e w' => e = .returned (.tuple #[.int .i64 m, .bool c]) ∧ Below W.heap.size W w') := fun W hW => by rw [← hm, ← hc]; exact ibestFn_any _ xs z W (RX.out.below hW)
  have C8 : Hid (∀ W, Below w1.heap.size w1 W → Calls Try.prog 30 #[.slice ax xs.length px, .int .i64 z] W fun e w' => e = .returned (.tuple #[.int .i64 m, .bool c]) ∧ Below W.heap.size W w') := fun W hW => by rw [← hm, ← hc]; exact sbestFn_any _ xs z W (RX.out.below hW)
  have C9 : Hid (∀ W, Below w1.heap.size w1 W → Calls Try.prog 31 #[.slice ax xs.length px, .int .i64 z] W fun e w' => e = .returned (.tuple #[.int .i64 k, .bool c]) ∧ Below W.heap.size W w') := fun W hW => by rw [← hk, ← hc]; exact ileastFn_any _ xs z W (RX.out.below hW)
  have C10 : Hid (∀ W, Below w1.heap.size w1 W → Calls Try.prog 32 #[.slice ax xs.length px, .int .i64 z] W fun e w' => e = .returned (.tuple #[.int .i64 k, .bool c]) ∧ Below W.heap.size W w') := fun W hW => by rw [← hk, ← hc]; exact sleastFn_any _ xs z W (RX.out.below hW)
  have C11 : Hid (∀ W, Below w1.heap.size w1 W → Calls Try.prog 34 #[.slice ax xs.length px, .int .i64 z] W fun e w' => e = .returned (.bool c) ∧ Below W.heap.size W w') := fun W hW => igoodCh_eq _ xs z c hc W (RX.out.below hW)
  have C12 : Hid (∀ W v (S : Int) (L : List Int), Below w1.heap.size w1 W → KReads W v L → giB xs L z = true → soN xs L z = S → Calls Try.prog 23 #[.slice ax xs.length px, .int .i64 z, v] W fun e w' => e = .returned (.tuple #[.int .i64 S, .bool true]) ∧ Below W.heap.size W w') := fun W v S L hW hv h1 h2 => by rw [← h1, ← h2]; exact ispanOf_any _ _ xs L z W (RX.out.below hW) hv
  have HOK := hid hok
  clear hn hok hs ht hm hk hA hB hc RX RG
  have BW : Hid (Below w1.heap.size w1 w1) := Below.refl _ _
  go_wp2_with fail
  refine (C1.out _ BW.out).mono ?_
  rintro e w2 ⟨rfl, hb⟩
  have hsW := BW.out.size
  replace BW : Hid (Below w1.heap.size w1 w2) := BW.out.trans (hb.mono hsW)
  clear hb hsW
  go_wp2_with fail
  refine (C2.out _ BW.out).mono ?_
  rintro e w3 ⟨rfl, hb⟩
  have hsW := BW.out.size
  replace BW : Hid (Below w1.heap.size w1 w3) := BW.out.trans (hb.mono hsW)
  clear hb hsW
  go_wp2_with fail
  refine (C3.out _ BW.out).mono ?_
  rintro e w4 ⟨uKA, rfl, hrKA, hb⟩
  have hsW := BW.out.size
  replace BW : Hid (Below w1.heap.size w1 w4) := BW.out.trans (hb.mono hsW)
  have KA := hid hrKA
  obtain ⟨aKA, pKA, rfl, _, _⟩ := hrKA
  clear hb hsW
  go_wp2_with fail
  refine (C4.out _ BW.out).mono ?_
  rintro e w5 ⟨uKB, rfl, hrKB, hb⟩
  have hsW := BW.out.size
  replace BW : Hid (Below w1.heap.size w1 w5) := BW.out.trans (hb.mono hsW)
  have KB := hid hrKB
  replace KA := hid (KA.out.below hb)
  obtain ⟨aKB, pKB, rfl, _, _⟩ := hrKB
  clear hb hsW
  go_wp2_with fail
  refine (C5.out _ BW.out).mono ?_
  rintro e w6 ⟨uKC, rfl, hrKC, hb⟩
  have hsW := BW.out.size
  replace BW : Hid (Below w1.heap.size w1 w6) := BW.out.trans (hb.mono hsW)
  have KC := hid hrKC
  replace KA := hid (KA.out.below hb)
  replace KB := hid (KB.out.below hb)
  obtain ⟨aKC, pKC, rfl, _, _⟩ := hrKC
  clear hb hsW
  go_wp2_with fail
  refine (C6.out _ BW.out).mono ?_
  rintro e w7 ⟨uKD, rfl, hrKD, hb⟩
  have hsW := BW.out.size
  replace BW : Hid (Below w1.heap.size w1 w7) := BW.out.trans (hb.mono hsW)
  have KD := hid hrKD
  replace KA := hid (KA.out.below hb)
  replace KB := hid (KB.out.below hb)
  replace KC := hid (KC.out.below hb)
  obtain ⟨aKD, pKD, rfl, _, _⟩ := hrKD
  clear hb hsW
  go_wp2_with fail
  refine (C7.out _ BW.out).mono ?_
  rintro e w8 ⟨rfl, hb⟩
  have hsW := BW.out.size
  replace BW : Hid (Below w1.heap.size w1 w8) := BW.out.trans (hb.mono hsW)
  replace KA := hid (KA.out.below hb)
  replace KB := hid (KB.out.below hb)
  replace KC := hid (KC.out.below hb)
  replace KD := hid (KD.out.below hb)
  clear hb hsW
  go_wp2_with fail
  refine (C8.out _ BW.out).mono ?_
  rintro e w9 ⟨rfl, hb⟩
  have hsW := BW.out.size
  replace BW : Hid (Below w1.heap.size w1 w9) := BW.out.trans (hb.mono hsW)
  replace KA := hid (KA.out.below hb)
  replace KB := hid (KB.out.below hb)
  replace KC := hid (KC.out.below hb)
  replace KD := hid (KD.out.below hb)
  clear hb hsW
  go_wp2_with fail
  refine (C9.out _ BW.out).mono ?_
  rintro e w10 ⟨rfl, hb⟩
  have hsW := BW.out.size
  replace BW : Hid (Below w1.heap.size w1 w10) := BW.out.trans (hb.mono hsW)
  replace KA := hid (KA.out.below hb)
  replace KB := hid (KB.out.below hb)
  replace KC := hid (KC.out.below hb)
  replace KD := hid (KD.out.below hb)
  clear hb hsW
  go_wp2_with fail
  refine (C10.out _ BW.out).mono ?_
  rintro e w11 ⟨rfl, hb⟩
  have hsW := BW.out.size
  replace BW : Hid (Below w1.heap.size w1 w11) := BW.out.trans (hb.mono hsW)
  replace KA := hid (KA.out.below hb)
  replace KB := hid (KB.out.below hb)
  replace KC := hid (KC.out.below hb)
  replace KD := hid (KD.out.below hb)
  clear hb hsW
  go_wp2_with fail
  refine (sameInts_dec _ _ A A true (by simp) rfl _ KA.out KB.out).mono ?_
  rintro e w12 ⟨rfl, hb⟩
  have hsW := BW.out.size
  replace BW : Hid (Below w1.heap.size w1 w12) := BW.out.trans (hb.mono hsW)
  replace KA := hid (KA.out.below hb)
  replace KB := hid (KB.out.below hb)
  replace KC := hid (KC.out.below hb)
  replace KD := hid (KD.out.below hb)
  clear hb hsW
  go_wp2_with fail
  refine (sameInts_dec _ _ Bl Bl true (by simp) rfl _ KC.out KD.out).mono ?_
  rintro e w13 ⟨rfl, hb⟩
  have hsW := BW.out.size
  replace BW : Hid (Below w1.heap.size w1 w13) := BW.out.trans (hb.mono hsW)
  replace KA := hid (KA.out.below hb)
  replace KB := hid (KB.out.below hb)
  replace KC := hid (KC.out.below hb)
  replace KD := hid (KD.out.below hb)
  clear hb hsW
  go_wp2_with fail
  refine (C11.out _ BW.out).mono ?_
  rintro e w14 ⟨rfl, hb⟩
  have hsW := BW.out.size
  replace BW : Hid (Below w1.heap.size w1 w14) := BW.out.trans (hb.mono hsW)
  replace KA := hid (KA.out.below hb)
  replace KC := hid (KC.out.below hb)
  clear hb hsW
  have BF : Hid (Below w.heap.size w w14) := BE.out.trans (BW.out.mono BE.out.size)
  cases c
  · go_wp2
    go_ret
    exact ⟨rfl, BF.out⟩
  have ask := HAsk.out rfl
  have HK := hid ask
  obtain ⟨p1, hp1⟩ : ∃ p1, z * s = p1 := ⟨_, rfl⟩
  obtain ⟨z2, hz2⟩ : ∃ z2, 2 * z = z2 := ⟨_, rfl⟩
  obtain ⟨z2m, hz2m⟩ : ∃ x, z2 - 1 = x := ⟨_, rfl⟩
  obtain ⟨p2, hp2⟩ : ∃ x, z2m * m = x := ⟨_, rfl⟩
  obtain ⟨z3, hz3⟩ : ∃ x, 3 * z = x := ⟨_, rfl⟩
  obtain ⟨p3, hp3⟩ : ∃ x, z3 * t = x := ⟨_, rfl⟩
  obtain ⟨z4, hz4⟩ : ∃ x, 4 * z = x := ⟨_, rfl⟩
  obtain ⟨z4m, hz4m⟩ : ∃ x, z4 - 1 = x := ⟨_, rfl⟩
  obtain ⟨p4, hp4⟩ : ∃ x, z4m * m = x := ⟨_, rfl⟩
  have hone := ask.one
  have htwo := ask.two
  rw [hz2, hz2m, hp2, hp1] at hone
  rw [hz4, hz4m, hp4, hz3, hp3] at htwo
  have hzz := ask.z1
  have hs4 := ask.s0
  have ht4 := ask.t0
  have hm4 := ask.m0
  have b1 : 0 ≤ p1 ∧ p1 ≤ 4 * 400 := by rw [← hp1]; exact ⟨Int.mul_nonneg (by omega) (by omega), Int.mul_le_mul (by omega) (by omega) (by omega) (by omega)⟩
  have b2 : 0 ≤ p2 ∧ p2 ≤ 7 * 400 := by rw [← hp2]; exact ⟨Int.mul_nonneg (by omega) (by omega), Int.mul_le_mul (by omega) (by omega) (by omega) (by omega)⟩
  have b3 : 0 ≤ p3 ∧ p3 ≤ 12 * 400 := by rw [← hp3]; exact ⟨Int.mul_nonneg (by omega) (by omega), Int.mul_le_mul (by omega) (by omega) (by omega) (by omega)⟩
  have b4 : 0 ≤ p4 ∧ p4 ≤ 15 * 400 := by rw [← hp4]; exact ⟨Int.mul_nonneg (by omega) (by omega), Int.mul_le_mul (by omega) (by omega) (by omega) (by omega)⟩
  have y1 : IntKind.i64.wrap (z * s) = p1 := by rw [hp1, IntKind.wrap_i64]; omega
  have y2 : IntKind.i64.wrap (2 * z) = z2 := by rw [hz2, IntKind.wrap_i64]; omega
  have y3 : IntKind.i64.wrap (z2 - 1) = z2m := by rw [hz2m, IntKind.wrap_i64]; omega
  have y4 : IntKind.i64.wrap (z2m * m) = p2 := by rw [hp2, IntKind.wrap_i64]; omega
  have y5 : IntKind.i64.wrap (3 * z) = z3 := by rw [hz3, IntKind.wrap_i64]; omega
  have y6 : IntKind.i64.wrap (z3 * t) = p3 := by rw [hp3, IntKind.wrap_i64]; omega
  have y7 : IntKind.i64.wrap (4 * z) = z4 := by rw [hz4, IntKind.wrap_i64]; omega
  have y8 : IntKind.i64.wrap (z4 - 1) = z4m := by rw [hz4m, IntKind.wrap_i64]; omega
  have y9 : IntKind.i64.wrap (z4m * m) = p4 := by rw [hp4, IntKind.wrap_i64]; omega
  have e1 : decide (m < k) = false := by rw [decide_eq_false_iff_not]; exact ask.km
  have e2 : decide (s < m) = false := by rw [decide_eq_false_iff_not]; exact ask.ms
  have e3 : decide (t < m) = false := by rw [decide_eq_false_iff_not]; exact ask.mt
  have e4 : decide (p2 < p1) = false := by rw [decide_eq_false_iff_not]; exact hone
  have e5 : decide (p4 < p3) = false := by rw [decide_eq_false_iff_not]; exact htwo
  have HNM : Hid (ok = true → ¬ n < m) := fun h => ask.nm (by rw [HOK.out]; exact h)
  have GA := hid ask.gA
  have SA := hid ask.sA
  have GB := hid ask.gB
  have SB := hid ask.sB
  clear ask hone htwo hzz hs4 ht4 hm4 b1 b2 b3 b4 hp1 hz2 hz2m hp2 hz3 hp3 hz4 hz4m hp4 HK HAsk
  go_wp2_with fail
  refine (C12.out _ _ s A BW.out KA.out GA.out SA.out).mono ?_
  rintro e wy1 ⟨rfl, hb⟩
  have hsW := BW.out.size
  replace BW : Hid (Below w1.heap.size w1 wy1) := BW.out.trans (hb.mono hsW)
  replace KC := hid (KC.out.below hb)
  clear hb hsW
  go_wp2_with fail
  refine (C12.out _ _ t Bl BW.out KC.out GB.out SB.out).mono ?_
  rintro e wy2 ⟨rfl, hb⟩
  have hsW := BW.out.size
  replace BW : Hid (Below w1.heap.size w1 wy2) := BW.out.trans (hb.mono hsW)
  have BG : Hid (Below w.heap.size w wy2) := BE.out.trans (BW.out.mono BE.out.size)
  clear hb hsW C1 C2 C3 C4 C5 C6 C7 C8 C9 C10 C11 C12 KA KB KC KD
  cases ok
  · go_wp2
    go_ret
    exact ⟨rfl, BG.out⟩
  · have e6 : decide (n < m) = false := by rw [decide_eq_false_iff_not]; have := HNM.out rfl; omega
    go_wp2
    go_ret
    exact ⟨rfl, BG.out⟩
end Go.Proofs.Ytflhlinkolbbiae
