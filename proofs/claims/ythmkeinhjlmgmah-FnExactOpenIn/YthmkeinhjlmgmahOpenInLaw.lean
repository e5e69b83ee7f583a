/-
  The law FnExactOpenIn answers true at every argument, where both sides tell alike.
-/
import Derived.Test.YthmkeinhjlmgmahIntsEq
import Derived.Test.YthmkeinhjlmgmahKIntMark
import Derived.Test.YthmkeinhjlmgmahKSenderArg
import Derived.Test.YthmkeinhjlmgmahKSenderMark
import Derived.Test.YthmkeinhjlmgmahKSenderTo
import Derived.Test.YthmkeinhjlmgmahKOwnS
import Derived.Deep.RegionWith
namespace Go.Proofs.Ythmkeinhjlmgmah
open Go.RowKit

set_option maxRecDepth 100000 in
set_option maxHeartbeats 16000000 in
theorem FnExactOpenIn_law (v0 : Value) (D0 : SdD) (w : World) (h0 : SdArg w v0 D0) (R0 : List Int) (hy0 : R0.length ≤ 1048576) (r1 : Bool)
    (HS : ∀ (v : Value) (w : World), SdReads w v D0 → Calls Try.prog 34 #[v] w fun e w' => ∃ u0, e = .returned (.tuple #[u0, .bool r1]) ∧ KOwnS (Iv w.heap.size w'.heap.size) w' u0 R0 ∧ Below w.heap.size w w')
    (HI : ∀ (v : Value) (w : World), SdReads w v D0 → Calls Try.prog 35 #[v] w fun e w' => ∃ u0, e = .returned (.tuple #[u0, .bool r1]) ∧ KOwnS (Iv w.heap.size w'.heap.size) w' u0 R0 ∧ Below w.heap.size w w') :
    Calls Try.prog 8 #[v0] w fun e w' => e = .returned (.bool true) ∧ Below w.heap.size w w' := by
  have HS' := hid HS
  have HI' := hid HI
  clear HS HI
  obtain ⟨a1, a2, rfl, _⟩ := id h0
  have HA := hid h0
  clear h0
  have B : Hid (Below w.heap.size w w) := Below.refl _ _
  have Z : Hid (w.heap.size ≤ w.heap.size) := Nat.le_refl _
  have b : Below (w).heap.size (w) (w.alloc (.cells #[.int .i64 D0.f0, a1, a2] 42)) := (Below.refl _ _).alloc (Nat.le_refl _) _
  have BA := hid (boxL_new (w) [.int .i64 D0.f0, a1, a2] 42)
  replace B : Hid (Below w.heap.size w (w.alloc (.cells #[.int .i64 D0.f0, a1, a2] 42))) := B.out.trans (b.mono B.out.size)
  replace Z : Hid ((w.heap.size ≤ w.heap.size) ∧ (w).heap.size + 1 ≤ (w.alloc (.cells #[.int .i64 D0.f0, a1, a2] 42)).heap.size) := ⟨Z.out, by rw [World.size_alloc]; exact Nat.le_refl _⟩
  clear b
  go_enter Try.func8, Try.ntmps8
  obtain ⟨q0_0, q0_1, q0_2⟩ := BA.out.three
  go_wp2_with fail
  obtain ⟨V0, hV⟩ : ∃ V, V = w.alloc (.cells #[.int .i64 D0.f0, a1, a2] 42) := ⟨_, rfl⟩
  rw [← hV] at B Z BA ⊢
  clear hV
  refine (szSender_any _ D0 _ (HA.out.below B.out) 1048576 (by omega) (by omega)).mono ?_
  rintro e w1 ⟨l1, rfl, hl, b⟩
  clear q0_0 q0_1 q0_2
  replace BA := hid (BA.out.below b BA.out.lt)
  replace B : Hid (Below w.heap.size w w1) := B.out.trans (b.mono B.out.size)
  replace Z : Hid (((w.heap.size ≤ w.heap.size) ∧ (w).heap.size + 1 ≤ V0.heap.size) ∧ (V0).heap.size ≤ w1.heap.size) := ⟨Z.out, b.size⟩
  clear b
  by_cases hneg : l1 < 0
  · have hd : decide (l1 < 0) = true := by rw [decide_eq_true_eq]; exact hneg
    go_wp2
    go_ret
    exact ⟨rfl, B.out⟩
  have hd : decide (l1 < 0) = false := by rw [decide_eq_false_iff_not]; exact hneg
  have htot : sdTot D0 ≤ 1048576 := by have := hl.2.1 (by omega); omega
  clear hl
  have HR := hid (HA.out.reads htot)
  have hN0 : sdTot D0 ≤ 1048576 := htot
  have hNN0 : sdN D0 ≤ 4194304 := by unfold sdTot at htot; unfold sdN; omega
  clear htot HA
  obtain ⟨q0_0, q0_1, q0_2⟩ := BA.out.three
  go_wp2_with fail
  refine (toSender_any _ D0 _ (HR.out.below B.out) hN0).mono ?_
  rintro e w2 ⟨tw2, rfl, o, b⟩
  clear q0_0 q0_1 q0_2
  replace BA := hid (BA.out.below b BA.out.lt)
  replace B : Hid (Below w.heap.size w w2) := B.out.trans (b.mono B.out.size)
  replace Z : Hid ((((w.heap.size ≤ w.heap.size) ∧ (w).heap.size + 1 ≤ V0.heap.size) ∧ (V0).heap.size ≤ w1.heap.size) ∧ (w1).heap.size ≤ w2.heap.size) := ⟨Z.out, b.size⟩
  clear b
  have A0 := hid o
  clear o
  obtain ⟨q0_0, q0_1, q0_2⟩ := BA.out.three
  go_wp2_with fail
  refine (HS'.out tw2 _ A0.out.reads).mono ?_
  rintro e w3 ⟨owu0, rfl, o0, b⟩
  clear q0_0 q0_1 q0_2
  replace A0 := hid (A0.out.below b)
  replace BA := hid (BA.out.below b BA.out.lt)
  replace B : Hid (Below w.heap.size w w3) := B.out.trans (b.mono B.out.size)
  replace Z : Hid (((((w.heap.size ≤ w.heap.size) ∧ (w).heap.size + 1 ≤ V0.heap.size) ∧ (V0).heap.size ≤ w1.heap.size) ∧ (w1).heap.size ≤ w2.heap.size) ∧ (w2).heap.size ≤ w3.heap.size) := ⟨Z.out, b.size⟩
  clear b
  clear A0
  have OW0 := hid o0
  have OW0I : Hid (∀ g, (Iv w2.heap.size w3.heap.size) g → w2.heap.size ≤ g ∧ g < w3.heap.size) := fun g h => h
  clear o0
  obtain ⟨q0_0, q0_1, q0_2⟩ := BA.out.three
  go_wp2_with fail
  refine (toSender_any _ D0 _ (HR.out.below B.out) hN0).mono ?_
  rintro e w4 ⟨tw4, rfl, o, b⟩
  clear q0_0 q0_1 q0_2
  replace OW0 := hid (OW0.out.below b)
  replace BA := hid (BA.out.below b BA.out.lt)
  replace B : Hid (Below w.heap.size w w4) := B.out.trans (b.mono B.out.size)
  replace Z : Hid ((((((w.heap.size ≤ w.heap.size) ∧ (w).heap.size + 1 ≤ V0.heap.size) ∧ (V0).heap.size ≤ w1.heap.size) ∧ (w1).heap.size ≤ w2.heap.size) ∧ (w2).heap.size ≤ w3.heap.size) ∧ (w3).heap.size ≤ w4.heap.size) := ⟨Z.out, b.size⟩
  clear b
  have X0 := hid o
  clear o
  obtain ⟨xa1, xn1, xk1, xa2, xn2, xk2, rfl⟩ := X0.out.form
  have b : Below (w4).heap.size (w4) (w4.alloc (.cells #[.int .i64 D0.f0, .slice xa1 xn1 xk1, .slice xa2 xn2 xk2] 34)) := (Below.refl _ _).alloc (Nat.le_refl _) _
  replace OW0 := hid (OW0.out.below b)
  replace X0 := hid (X0.out.below b)
  replace BA := hid (BA.out.below b BA.out.lt)
  have BX := hid (boxL_new (w4) [.int .i64 D0.f0, .slice xa1 xn1 xk1, .slice xa2 xn2 xk2] 34)
  replace B : Hid (Below w.heap.size w (w4.alloc (.cells #[.int .i64 D0.f0, .slice xa1 xn1 xk1, .slice xa2 xn2 xk2] 34))) := B.out.trans (b.mono B.out.size)
  replace Z : Hid (((((((w.heap.size ≤ w.heap.size) ∧ (w).heap.size + 1 ≤ V0.heap.size) ∧ (V0).heap.size ≤ w1.heap.size) ∧ (w1).heap.size ≤ w2.heap.size) ∧ (w2).heap.size ≤ w3.heap.size) ∧ (w3).heap.size ≤ w4.heap.size) ∧ (w4).heap.size + 1 ≤ (w4.alloc (.cells #[.int .i64 D0.f0, .slice xa1 xn1 xk1, .slice xa2 xn2 xk2] 34)).heap.size) := ⟨Z.out, by rw [World.size_alloc]; exact Nat.le_refl _⟩
  clear b
  obtain ⟨q0_0, q0_1, q0_2⟩ := BA.out.three
  obtain ⟨q1_0, q1_1, q1_2⟩ := BX.out.three
  go_wp2_with fail
  obtain ⟨V1, hV⟩ : ∃ V, V = w4.alloc (.cells #[.int .i64 D0.f0, .slice xa1 xn1 xk1, .slice xa2 xn2 xk2] 34) := ⟨_, rfl⟩
  rw [← hV] at B Z OW0 X0 BA BX ⊢
  clear hV
  refine (HI'.out _ _ X0.out.reads).mono ?_
  rintro e w5 ⟨ogu0, rfl, o0, b⟩
  clear q0_0 q0_1 q0_2 q1_0 q1_1 q1_2
  replace OW0 := hid (OW0.out.below b)
  replace X0 := hid (X0.out.below b)
  replace BA := hid (BA.out.below b BA.out.lt)
  replace BX := hid (BX.out.below b BX.out.lt)
  replace B : Hid (Below w.heap.size w w5) := B.out.trans (b.mono B.out.size)
  replace Z : Hid ((((((((w.heap.size ≤ w.heap.size) ∧ (w).heap.size + 1 ≤ V0.heap.size) ∧ (V0).heap.size ≤ w1.heap.size) ∧ (w1).heap.size ≤ w2.heap.size) ∧ (w2).heap.size ≤ w3.heap.size) ∧ (w3).heap.size ≤ w4.heap.size) ∧ (w4).heap.size + 1 ≤ V1.heap.size) ∧ (V1).heap.size ≤ w5.heap.size) := ⟨Z.out, b.size⟩
  clear b
  have OG0 := hid o0
  have OG0I : Hid (∀ g, (Iv V1.heap.size w5.heap.size) g → V1.heap.size ≤ g ∧ g < w5.heap.size) := fun g h => h
  clear o0
  obtain ⟨q0_0, q0_1, q0_2⟩ := BA.out.three
  obtain ⟨q1_0, q1_1, q1_2⟩ := BX.out.three
  go_wp2_with fail
  refine (keqIntS_same _ _ R0 _ OG0.out.reads OW0.out.reads).mono ?_
  rintro e w6 ⟨rfl, b⟩
  clear q0_0 q0_1 q0_2 q1_0 q1_1 q1_2
  replace OW0 := hid (OW0.out.below b)
  replace X0 := hid (X0.out.below b)
  replace OG0 := hid (OG0.out.below b)
  replace BA := hid (BA.out.below b BA.out.lt)
  replace BX := hid (BX.out.below b BX.out.lt)
  replace B : Hid (Below w.heap.size w w6) := B.out.trans (b.mono B.out.size)
  replace Z : Hid (((((((((w.heap.size ≤ w.heap.size) ∧ (w).heap.size + 1 ≤ V0.heap.size) ∧ (V0).heap.size ≤ w1.heap.size) ∧ (w1).heap.size ≤ w2.heap.size) ∧ (w2).heap.size ≤ w3.heap.size) ∧ (w3).heap.size ≤ w4.heap.size) ∧ (w4).heap.size + 1 ≤ V1.heap.size) ∧ (V1).heap.size ≤ w5.heap.size) ∧ (w5).heap.size ≤ w6.heap.size) := ⟨Z.out, b.size⟩
  clear b
  obtain ⟨q0_0, q0_1, q0_2⟩ := BA.out.three
  obtain ⟨q1_0, q1_1, q1_2⟩ := BX.out.three
  go_wp2_with fail
  clear q0_0 q0_1 q0_2 q1_0 q1_1 q1_2
  obtain ⟨q0_0, q0_1, q0_2⟩ := BA.out.three
  obtain ⟨q1_0, q1_1, q1_2⟩ := BX.out.three
  have bd : Below w6.heap.size w6 w6.drew := (Below.refl _ _).drew
  go_region_with (first
    | (go_at_call 21; refine (toSender_any _ D0 _ (HR.out.below B.out.drew) hN0).mono ?_; rintro e w7 ⟨t5, rfl, o5, b5⟩; have OW0_ := hid (OW0.out.below (bd.trans b5)); have X0_ := hid (X0.out.below (bd.trans b5)); have OG0_ := hid (OG0.out.below (bd.trans b5)); have BA_ := hid (BA.out.below (bd.trans b5) BA.out.lt); have BX_ := hid (BX.out.below (bd.trans b5) BX.out.lt); have O5 := hid o5; have BB := hid (bd.trans b5); obtain ⟨y0, y1, y2⟩ := BX_.out.three; clear o5 b5)
    | (go_at_call 16; refine (eqSender_same _ _ D0 _ X0_.out.reads O5.out.reads).mono ?_; rintro e w8 ⟨rfl, b6⟩; have B6 := hid b6; clear b6))
  all_goals
    clear y0 y1 y2 q0_0 q0_1 q0_2 q1_0 q1_1 q1_2
    have b : Below w6.heap.size w6 w8 := BB.out.trans (B6.out.mono BB.out.size)
    clear BB B6 O5 OW0_ X0_ OG0_ BA_ BX_
    clear bd
    replace OW0 := hid (OW0.out.below b)
    replace X0 := hid (X0.out.below b)
    replace OG0 := hid (OG0.out.below b)
    replace BA := hid (BA.out.below b BA.out.lt)
    replace BX := hid (BX.out.below b BX.out.lt)
    replace B : Hid (Below w.heap.size w w8) := B.out.trans (b.mono B.out.size)
    replace Z : Hid ((((((((((w.heap.size ≤ w.heap.size) ∧ (w).heap.size + 1 ≤ V0.heap.size) ∧ (V0).heap.size ≤ w1.heap.size) ∧ (w1).heap.size ≤ w2.heap.size) ∧ (w2).heap.size ≤ w3.heap.size) ∧ (w3).heap.size ≤ w4.heap.size) ∧ (w4).heap.size + 1 ≤ V1.heap.size) ∧ (V1).heap.size ≤ w5.heap.size) ∧ (w5).heap.size ≤ w6.heap.size) ∧ (w6).heap.size ≤ w8.heap.size) := ⟨Z.out, b.size⟩
    clear b
    obtain ⟨q0_0, q0_1, q0_2⟩ := BA.out.three
    obtain ⟨q1_0, q1_1, q1_2⟩ := BX.out.three
    go_wp2_with fail
    obtain ⟨mx, hm, mx_0, mx_1⟩ : ∃ m : Int, m = 1 + (sdN D0 : Nat) ∧ 0 ≤ m ∧ m ≤ 4500000 := ⟨_, rfl, by omega, by omega⟩
    have HM_mx := hid hm
    clear hm
    have HIN : Hid (∀ g, (Iv w3.heap.size w4.heap.size) g → w3.heap.size ≤ g ∧ g < w8.heap.size) := fun g h => by have h1 : w3.heap.size ≤ g ∧ g < w4.heap.size := h; have := Z.out; omega
    refine (markSender_any (Iv w3.heap.size w4.heap.size) w3.heap.size _ D0 1 mx _ X0.out HIN.out (by have := Z.out; omega) hN0 (by omega) (by omega) HM_mx.out).mono ?_
    rintro e w9 ⟨rfl, o, b, on⟩
    clear HIN
    clear q0_0 q0_1 q0_2 q1_0 q1_1 q1_2
    replace OW0 := hid (OW0.out.onlyS on (fun g g1 g2 => by have h1 : w2.heap.size ≤ g ∧ g < w3.heap.size := (OW0I.out g g1); have h2 : w3.heap.size ≤ g ∧ g < w4.heap.size := g2; have := Z.out; omega))
    replace X0 := hid o
    replace OG0 := hid (OG0.out.onlyS on (fun g g1 g2 => by have h1 : V1.heap.size ≤ g ∧ g < w5.heap.size := (OG0I.out g g1); have h2 : w3.heap.size ≤ g ∧ g < w4.heap.size := g2; have := Z.out; omega))
    replace BA := hid (BA.out.of_block (on _ BA.out.lt (fun g2 => by have h2 : w3.heap.size ≤ _ ∧ _ < w4.heap.size := g2; have := Z.out; omega)))
    replace BX := hid (BX.out.of_block (on _ BX.out.lt (fun g2 => by have h2 : w3.heap.size ≤ _ ∧ _ < w4.heap.size := g2; have := Z.out; omega)))
    replace B : Hid (Below w.heap.size w w9) := B.out.trans (b.mono (by have := Z.out; omega))
    replace Z : Hid (((((((((((w.heap.size ≤ w.heap.size) ∧ (w).heap.size + 1 ≤ V0.heap.size) ∧ (V0).heap.size ≤ w1.heap.size) ∧ (w1).heap.size ≤ w2.heap.size) ∧ (w2).heap.size ≤ w3.heap.size) ∧ (w3).heap.size ≤ w4.heap.size) ∧ (w4).heap.size + 1 ≤ V1.heap.size) ∧ (V1).heap.size ≤ w5.heap.size) ∧ (w5).heap.size ≤ w6.heap.size) ∧ (w6).heap.size ≤ w8.heap.size) ∧ w8.heap.size ≤ w9.heap.size) := ⟨Z.out, b.size⟩
    clear o b on
    have hdx : decide (mx < 0) = false := by rw [decide_eq_false_iff_not]; omega
    obtain ⟨q0_0, q0_1, q0_2⟩ := BA.out.three
    obtain ⟨q1_0, q1_1, q1_2⟩ := BX.out.three
    go_wp2_with fail
    refine (keqIntS_same _ _ R0 _ OG0.out.reads OW0.out.reads).mono ?_
    rintro e w10 ⟨rfl, b⟩
    clear q0_0 q0_1 q0_2 q1_0 q1_1 q1_2
    replace OW0 := hid (OW0.out.below b)
    replace X0 := hid (X0.out.below b)
    replace OG0 := hid (OG0.out.below b)
    replace BA := hid (BA.out.below b BA.out.lt)
    replace BX := hid (BX.out.below b BX.out.lt)
    replace B : Hid (Below w.heap.size w w10) := B.out.trans (b.mono B.out.size)
    replace Z : Hid ((((((((((((w.heap.size ≤ w.heap.size) ∧ (w).heap.size + 1 ≤ V0.heap.size) ∧ (V0).heap.size ≤ w1.heap.size) ∧ (w1).heap.size ≤ w2.heap.size) ∧ (w2).heap.size ≤ w3.heap.size) ∧ (w3).heap.size ≤ w4.heap.size) ∧ (w4).heap.size + 1 ≤ V1.heap.size) ∧ (V1).heap.size ≤ w5.heap.size) ∧ (w5).heap.size ≤ w6.heap.size) ∧ (w6).heap.size ≤ w8.heap.size) ∧ w8.heap.size ≤ w9.heap.size) ∧ (w9).heap.size ≤ w10.heap.size) := ⟨Z.out, b.size⟩
    clear b
    clear X0
    obtain ⟨q0_0, q0_1, q0_2⟩ := BA.out.three
    obtain ⟨q1_0, q1_1, q1_2⟩ := BX.out.three
    go_wp2_with fail
    obtain ⟨m0, hm, m0_0, m0_1⟩ : ∃ m : Int, m = 1 + (R0.length : Nat) ∧ 0 ≤ m ∧ m ≤ 4500000 := ⟨_, rfl, by omega, by omega⟩
    have HM_m0 := hid hm
    clear hm
    obtain ⟨l_, e_, ko, hS⟩ := OG0.out
    have KO := hid ko
    have HSS := hid hS
    clear ko hS
    refine (kmarkIntS_any l_ e_ _ R0 1 m0 _ KO.out hy0 (by omega) (by omega) HM_m0.out).mono ?_
    rintro e w11 ⟨rfl, ok, bk, onk⟩
    have on : OnlyS (Iv V1.heap.size w5.heap.size) w10 w11 := KOwnS.on HSS.out onk
    have o : KOwnS (Iv V1.heap.size w5.heap.size) w11 ogu0 (kmarks 1 R0.length) := ⟨l_, e_, ok, HSS.out⟩
    have b : Below V1.heap.size w10 w11 := KOwnS.frame KO.out HSS.out (fun g h => (OG0I.out g h).1) (by have := Z.out; omega) bk onk
    clear ok bk onk KO HSS
    clear q0_0 q0_1 q0_2 q1_0 q1_1 q1_2
    replace OW0 := hid (OW0.out.onlyS on (fun g g1 g2 => by have h1 : w2.heap.size ≤ g ∧ g < w3.heap.size := (OW0I.out g g1); have h2 : V1.heap.size ≤ g ∧ g < w5.heap.size := (OG0I.out g g2); have := Z.out; omega))
    replace OG0 := hid o
    replace BA := hid (BA.out.of_block (on _ BA.out.lt (fun g2 => by have h2 : V1.heap.size ≤ _ ∧ _ < w5.heap.size := OG0I.out _ g2; have := Z.out; omega)))
    replace BX := hid (BX.out.of_block (on _ BX.out.lt (fun g2 => by have h2 : V1.heap.size ≤ _ ∧ _ < w5.heap.size := OG0I.out _ g2; have := Z.out; omega)))
    replace B : Hid (Below w.heap.size w w11) := B.out.trans (b.mono (by have := Z.out; omega))
    replace Z : Hid (((((((((((((w.heap.size ≤ w.heap.size) ∧ (w).heap.size + 1 ≤ V0.heap.size) ∧ (V0).heap.size ≤ w1.heap.size) ∧ (w1).heap.size ≤ w2.heap.size) ∧ (w2).heap.size ≤ w3.heap.size) ∧ (w3).heap.size ≤ w4.heap.size) ∧ (w4).heap.size + 1 ≤ V1.heap.size) ∧ (V1).heap.size ≤ w5.heap.size) ∧ (w5).heap.size ≤ w6.heap.size) ∧ (w6).heap.size ≤ w8.heap.size) ∧ w8.heap.size ≤ w9.heap.size) ∧ (w9).heap.size ≤ w10.heap.size) ∧ w10.heap.size ≤ w11.heap.size) := ⟨Z.out, b.size⟩
    clear o b on
    have hdm0 : decide (m0 < 0) = false := by rw [decide_eq_false_iff_not]; omega
    obtain ⟨q0_0, q0_1, q0_2⟩ := BA.out.three
    obtain ⟨q1_0, q1_1, q1_2⟩ := BX.out.three
    go_wp2_with fail
    refine (kheldIntS_any _ R0.length 1 m0 _ OG0.out.reads hy0 (by omega) (by omega) HM_m0.out).mono ?_
    rintro e w' ⟨rfl, hw⟩; obtain rfl := hw.symm
    clear q0_0 q0_1 q0_2 q1_0 q1_1 q1_2
    obtain ⟨q0_0, q0_1, q0_2⟩ := BA.out.three
    obtain ⟨q1_0, q1_1, q1_2⟩ := BX.out.three
    go_wp2_with fail
    refine (toSender_any _ D0 _ (HR.out.below B.out) hN0).mono ?_
    rintro e w12 ⟨tw12, rfl, o, b⟩
    clear q0_0 q0_1 q0_2 q1_0 q1_1 q1_2
    replace OW0 := hid (OW0.out.below b)
    replace OG0 := hid (OG0.out.below b)
    replace BA := hid (BA.out.below b BA.out.lt)
    replace BX := hid (BX.out.below b BX.out.lt)
    replace B : Hid (Below w.heap.size w w12) := B.out.trans (b.mono B.out.size)
    replace Z : Hid ((((((((((((((w.heap.size ≤ w.heap.size) ∧ (w).heap.size + 1 ≤ V0.heap.size) ∧ (V0).heap.size ≤ w1.heap.size) ∧ (w1).heap.size ≤ w2.heap.size) ∧ (w2).heap.size ≤ w3.heap.size) ∧ (w3).heap.size ≤ w4.heap.size) ∧ (w4).heap.size + 1 ≤ V1.heap.size) ∧ (V1).heap.size ≤ w5.heap.size) ∧ (w5).heap.size ≤ w6.heap.size) ∧ (w6).heap.size ≤ w8.heap.size) ∧ w8.heap.size ≤ w9.heap.size) ∧ (w9).heap.size ≤ w10.heap.size) ∧ w10.heap.size ≤ w11.heap.size) ∧ (w11).heap.size ≤ w12.heap.size) := ⟨Z.out, b.size⟩
    clear b
    have A9 := hid o
    clear o
    obtain ⟨q0_0, q0_1, q0_2⟩ := BA.out.three
    obtain ⟨q1_0, q1_1, q1_2⟩ := BX.out.three
    go_wp2_with fail
    refine (HI'.out tw12 _ A9.out.reads).mono ?_
    rintro e w13 ⟨ohu0, rfl, o0, b⟩
    clear q0_0 q0_1 q0_2 q1_0 q1_1 q1_2
    replace OW0 := hid (OW0.out.below b)
    replace OG0 := hid (OG0.out.below b)
    replace A9 := hid (A9.out.below b)
    replace BA := hid (BA.out.below b BA.out.lt)
    replace BX := hid (BX.out.below b BX.out.lt)
    replace B : Hid (Below w.heap.size w w13) := B.out.trans (b.mono B.out.size)
    replace Z : Hid (((((((((((((((w.heap.size ≤ w.heap.size) ∧ (w).heap.size + 1 ≤ V0.heap.size) ∧ (V0).heap.size ≤ w1.heap.size) ∧ (w1).heap.size ≤ w2.heap.size) ∧ (w2).heap.size ≤ w3.heap.size) ∧ (w3).heap.size ≤ w4.heap.size) ∧ (w4).heap.size + 1 ≤ V1.heap.size) ∧ (V1).heap.size ≤ w5.heap.size) ∧ (w5).heap.size ≤ w6.heap.size) ∧ (w6).heap.size ≤ w8.heap.size) ∧ w8.heap.size ≤ w9.heap.size) ∧ (w9).heap.size ≤ w10.heap.size) ∧ w10.heap.size ≤ w11.heap.size) ∧ (w11).heap.size ≤ w12.heap.size) ∧ (w12).heap.size ≤ w13.heap.size) := ⟨Z.out, b.size⟩
    clear b
    clear A9
    have OH0 := hid o0
    have OH0I : Hid (∀ g, (Iv w12.heap.size w13.heap.size) g → w12.heap.size ≤ g ∧ g < w13.heap.size) := fun g h => h
    clear o0
    obtain ⟨q0_0, q0_1, q0_2⟩ := BA.out.three
    obtain ⟨q1_0, q1_1, q1_2⟩ := BX.out.three
    go_wp2_with fail
    refine (keqIntS_same _ _ R0 _ OH0.out.reads OW0.out.reads).mono ?_
    rintro e w14 ⟨rfl, b⟩
    clear q0_0 q0_1 q0_2 q1_0 q1_1 q1_2
    replace OW0 := hid (OW0.out.below b)
    replace OG0 := hid (OG0.out.below b)
    replace OH0 := hid (OH0.out.below b)
    replace BA := hid (BA.out.below b BA.out.lt)
    replace BX := hid (BX.out.below b BX.out.lt)
    replace B : Hid (Below w.heap.size w w14) := B.out.trans (b.mono B.out.size)
    replace Z : Hid ((((((((((((((((w.heap.size ≤ w.heap.size) ∧ (w).heap.size + 1 ≤ V0.heap.size) ∧ (V0).heap.size ≤ w1.heap.size) ∧ (w1).heap.size ≤ w2.heap.size) ∧ (w2).heap.size ≤ w3.heap.size) ∧ (w3).heap.size ≤ w4.heap.size) ∧ (w4).heap.size + 1 ≤ V1.heap.size) ∧ (V1).heap.size ≤ w5.heap.size) ∧ (w5).heap.size ≤ w6.heap.size) ∧ (w6).heap.size ≤ w8.heap.size) ∧ w8.heap.size ≤ w9.heap.size) ∧ (w9).heap.size ≤ w10.heap.size) ∧ w10.heap.size ≤ w11.heap.size) ∧ (w11).heap.size ≤ w12.heap.size) ∧ (w12).heap.size ≤ w13.heap.size) ∧ (w13).heap.size ≤ w14.heap.size) := ⟨Z.out, b.size⟩
    clear b
    obtain ⟨q0_0, q0_1, q0_2⟩ := BA.out.three
    obtain ⟨q1_0, q1_1, q1_2⟩ := BX.out.three
    go_wp2_with fail
    refine (kheldIntS_any _ R0.length 1 m0 _ OG0.out.reads hy0 (by omega) (by omega) HM_m0.out).mono ?_
    rintro e w' ⟨rfl, hw⟩; obtain rfl := hw.symm
    clear q0_0 q0_1 q0_2 q1_0 q1_1 q1_2
    go_wp2
    go_ret
    exact ⟨rfl, B.out⟩
end Go.Proofs.Ythmkeinhjlmgmah
