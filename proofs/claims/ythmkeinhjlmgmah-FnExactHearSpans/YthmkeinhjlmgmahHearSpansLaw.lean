/-
  The law FnExactHearSpans answers true at every argument, where both sides tell alike.
-/
import Derived.Test.YthmkeinhjlmgmahIntsEq
import Derived.Test.YthmkeinhjlmgmahKIntMark
import Derived.Test.YthmkeinhjlmgmahKIntArg
import Derived.Test.YthmkeinhjlmgmahIntsTo
import Derived.Test.YthmkeinhjlmgmahKSpanArg
import Derived.Test.YthmkeinhjlmgmahKSpanMark
import Derived.Test.YthmkeinhjlmgmahKSpanSf
import Derived.Test.YthmkeinhjlmgmahKSpanRows
import Derived.Test.YthmkeinhjlmgmahQForm
import Derived.Deep.RegionWith
namespace Go.Proofs.Ythmkeinhjlmgmah
open Go.RowKit

set_option maxRecDepth 100000 in
set_option maxHeartbeats 16000000 in
theorem FnExactHearSpans_law (v0 : Value) (D0 : SdD) (b1 : Option Addr) (len1 cap1 : Nat) (D1 : List SpEl) (w : World) (h0 : SdArg w v0 D0) (h1 : SpArg w b1 len1 cap1 D1) (R0 : SdD) (hy0 : sdTot R0 ≤ 1048576) (R1 : List Int) (hy1 : R1.length ≤ 1048576) (R2 : List Int) (hy2 : R2.length ≤ 1048576) (r3 : Bool)
    (HS : ∀ (v vl : Value) (w : World), SdReads w v D0 → SpReads w vl D1 → Calls Try.prog 26 #[v, vl] w fun e w' => ∃ u0 u1 u2 S0 S1 S2, e = .returned (.tuple #[u0, u1, u2, .bool r3]) ∧ SdOwn S0 w' u0 R0 ∧ KOwnS S1 w' u1 R1 ∧ KOwnS S2 w' u2 R2 ∧ ((∀ g, S0 g → S1 g → False) ∧ (∀ g, S0 g → S2 g → False) ∧ (∀ g, S1 g → S2 g → False)) ∧ (∀ g, S0 g ∨ S1 g ∨ S2 g → w.heap.size ≤ g ∧ g < w'.heap.size) ∧ Below w.heap.size w w')
    (HI : ∀ (v vl : Value) (w : World), SdReads w v D0 → SpReads w vl D1 → Calls Try.prog 28 #[v, vl] w fun e w' => ∃ u0 u1 u2 S0 S1 S2, e = .returned (.tuple #[u0, u1, u2, .bool r3]) ∧ SdOwn S0 w' u0 R0 ∧ KOwnS S1 w' u1 R1 ∧ KOwnS S2 w' u2 R2 ∧ ((∀ g, S0 g → S1 g → False) ∧ (∀ g, S0 g → S2 g → False) ∧ (∀ g, S1 g → S2 g → False)) ∧ (∀ g, S0 g ∨ S1 g ∨ S2 g → w.heap.size ≤ g ∧ g < w'.heap.size) ∧ Below w.heap.size w w') :
    Calls Try.prog 7 #[v0, .slice b1 len1 cap1] w fun e w' => e = .returned (.bool true) ∧ Below w.heap.size w w' := by
  have HS' := hid HS
  have HI' := hid HI
  clear HS HI
  obtain ⟨a1, a2, rfl, _⟩ := id h0
  have HA := hid h0
  clear h0
  have B : Hid (Below w.heap.size w w) := Below.refl _ _
  have Z : Hid (w.heap.size ≤ w.heap.size) := Nat.le_refl _
  have b : Below (w).heap.size (w) (w.alloc (.cells #[.int .i64 D0.f0, a1, a2] 42)) := (Below.refl _ _).alloc (Nat.le_refl _) _
  have BA := hid (boxL_new (w) [.int .i64 D0.f0, a1, a2] 42)
  replace B : Hid (Below w.heap.size w (w.alloc (.cells #[.int .i64 D0.f0, a1, a2] 42))) := B.out.trans (b.mono B.out.size)
  replace Z : Hid ((w.heap.size ≤ w.heap.size) ∧ (w).heap.size + 1 ≤ (w.alloc (.cells #[.int .i64 D0.f0, a1, a2] 42)).heap.size) := ⟨Z.out, by rw [World.size_alloc]; exact Nat.le_refl _⟩
  clear b
  go_enter Try.func7, Try.ntmps7
  obtain ⟨q0_0, q0_1, q0_2⟩ := BA.out.three
  go_wp2_with fail
  obtain ⟨V0, hV⟩ : ∃ V, V = w.alloc (.cells #[.int .i64 D0.f0, a1, a2] 42) := ⟨_, rfl⟩
  rw [← hV] at B Z BA ⊢
  clear hV
  refine (szSender_any _ D0 _ (HA.out.below B.out) 1048576 (by omega) (by omega)).mono ?_
  rintro e w1 ⟨l1, rfl, hl, b⟩
  clear q0_0 q0_1 q0_2
  replace BA := hid (BA.out.below b BA.out.lt)
  replace B : Hid (Below w.heap.size w w1) := B.out.trans (b.mono B.out.size)
  replace Z : Hid (((w.heap.size ≤ w.heap.size) ∧ (w).heap.size + 1 ≤ V0.heap.size) ∧ (V0).heap.size ≤ w1.heap.size) := ⟨Z.out, b.size⟩
  clear b
  by_cases hneg : l1 < 0
  · have hd : decide (l1 < 0) = true := by rw [decide_eq_true_eq]; exact hneg
    go_wp2
    go_ret
    exact ⟨rfl, B.out⟩
  have hd : decide (l1 < 0) = false := by rw [decide_eq_false_iff_not]; exact hneg
  have htot : sdTot D0 ≤ 1048576 := by have := hl.2.1 (by omega); omega
  have hl1u : l1 ≤ 1048576 := hl.2.2
  clear hl
  have HR := hid (HA.out.reads htot)
  have hN0 : sdTot D0 ≤ 1048576 := htot
  have hNN0 : sdN D0 ≤ 4194304 := by unfold sdTot at htot; unfold sdN; omega
  clear htot HA
  have hmx : len1 ≤ maxLen := Nat.le_trans h1.2.1 h1.2.2.1
  by_cases hl1 : (len1 : Int) ≤ l1
  rotate_left
  · obtain ⟨q0_0, q0_1, q0_2⟩ := BA.out.three
    go_wp2_with fail
    refine (szSpanS_over l1 b1 len1 cap1 _ (by omega) hl1u (by omega) hmx).mono ?_
    rintro e w' ⟨rfl, hw⟩; obtain rfl := hw.symm
    go_wp2
    go_ret
    exact ⟨rfl, B.out⟩
  obtain ⟨q0_0, q0_1, q0_2⟩ := BA.out.three
  go_wp2_with fail
  refine (szSpanS_at l1 b1 len1 cap1 _ (by omega) hl1u hl1).mono ?_
  rintro e w' ⟨rfl, hw⟩; obtain rfl := hw.symm
  clear q0_0 q0_1 q0_2
  have hd1 : decide (l1 - (len1 : Int) < 0) = false := by rw [decide_eq_false_iff_not]; omega
  have hN1 : D1.length ≤ 1048576 := by rw [h1.1]; omega
  have HR1 := hid (h1.reads (by omega))
  clear h1 hmx hl1u
  have hYN0 : sdTot R0 ≤ 1048576 := hy0
  have hYNN0 : sdN R0 ≤ 4194304 := by unfold sdTot at hy0; unfold sdN; omega
  clear hy0
  obtain ⟨q0_0, q0_1, q0_2⟩ := BA.out.three
  go_wp2_with fail
  refine (toSender_any _ D0 _ (HR.out.below B.out) hN0).mono ?_
  rintro e w2 ⟨tw2, rfl, o, b⟩
  clear q0_0 q0_1 q0_2
  replace BA := hid (BA.out.below b BA.out.lt)
  replace B : Hid (Below w.heap.size w w2) := B.out.trans (b.mono B.out.size)
  replace Z : Hid ((((w.heap.size ≤ w.heap.size) ∧ (w).heap.size + 1 ≤ V0.heap.size) ∧ (V0).heap.size ≤ w1.heap.size) ∧ (w1).heap.size ≤ w2.heap.size) := ⟨Z.out, b.size⟩
  clear b
  have A0 := hid o
  clear o
  obtain ⟨q0_0, q0_1, q0_2⟩ := BA.out.three
  go_wp2_with fail
  refine (toSpanS_any _ D1 _ (HR1.out.below B.out) hN1).mono ?_
  rintro e w3 ⟨tw3, rfl, o, b⟩
  clear q0_0 q0_1 q0_2
  replace A0 := hid (A0.out.below b)
  replace BA := hid (BA.out.below b BA.out.lt)
  replace B : Hid (Below w.heap.size w w3) := B.out.trans (b.mono B.out.size)
  replace Z : Hid (((((w.heap.size ≤ w.heap.size) ∧ (w).heap.size + 1 ≤ V0.heap.size) ∧ (V0).heap.size ≤ w1.heap.size) ∧ (w1).heap.size ≤ w2.heap.size) ∧ (w2).heap.size ≤ w3.heap.size) := ⟨Z.out, b.size⟩
  clear b
  have A0s := hid o
  clear o
  obtain ⟨q0_0, q0_1, q0_2⟩ := BA.out.three
  go_wp2_with fail
  refine (HS'.out tw2 tw3 _ A0.out.reads A0s.out.reads).mono ?_
  rintro e w4 ⟨owu0, owu1, owu2, owS0, owS1, owS2, rfl, o0, o1, o2, hdj, hin, b⟩
  clear q0_0 q0_1 q0_2
  replace A0 := hid (A0.out.below b)
  replace A0s := hid (A0s.out.below b)
  replace BA := hid (BA.out.below b BA.out.lt)
  replace B : Hid (Below w.heap.size w w4) := B.out.trans (b.mono B.out.size)
  replace Z : Hid ((((((w.heap.size ≤ w.heap.size) ∧ (w).heap.size + 1 ≤ V0.heap.size) ∧ (V0).heap.size ≤ w1.heap.size) ∧ (w1).heap.size ≤ w2.heap.size) ∧ (w2).heap.size ≤ w3.heap.size) ∧ (w3).heap.size ≤ w4.heap.size) := ⟨Z.out, b.size⟩
  clear b
  clear A0
  clear A0s
  obtain ⟨owc0_a1, owc0_n1, owc0_k1, owc0_a2, owc0_n2, owc0_k2, rfl⟩ := o0.form
  have OW0 := hid o0
  have OW0I : Hid (∀ g, owS0 g → w3.heap.size ≤ g ∧ g < w4.heap.size) := fun g h => hin g (.inl h)
  have OW1 := hid o1
  have OW1I : Hid (∀ g, owS1 g → w3.heap.size ≤ g ∧ g < w4.heap.size) := fun g h => hin g (.inr (.inl h))
  have OW2 := hid o2
  have OW2I : Hid (∀ g, owS2 g → w3.heap.size ≤ g ∧ g < w4.heap.size) := fun g h => hin g (.inr (.inr h))
  have OWDJ := hid hdj
  clear hdj hin
  clear o0 o1 o2
  have b : Below (w4).heap.size (w4) (w4.alloc (.cells #[.int .i64 R0.f0, .slice owc0_a1 owc0_n1 owc0_k1, .slice owc0_a2 owc0_n2 owc0_k2] 34)) := (Below.refl _ _).alloc (Nat.le_refl _) _
  replace OW0 := hid (OW0.out.below b)
  replace OW1 := hid (OW1.out.below b)
  replace OW2 := hid (OW2.out.below b)
  replace BA := hid (BA.out.below b BA.out.lt)
  have OWB0 := hid (boxL_new (w4) [.int .i64 R0.f0, .slice owc0_a1 owc0_n1 owc0_k1, .slice owc0_a2 owc0_n2 owc0_k2] 34)
  replace B : Hid (Below w.heap.size w (w4.alloc (.cells #[.int .i64 R0.f0, .slice owc0_a1 owc0_n1 owc0_k1, .slice owc0_a2 owc0_n2 owc0_k2] 34))) := B.out.trans (b.mono B.out.size)
  replace Z : Hid (((((((w.heap.size ≤ w.heap.size) ∧ (w).heap.size + 1 ≤ V0.heap.size) ∧ (V0).heap.size ≤ w1.heap.size) ∧ (w1).heap.size ≤ w2.heap.size) ∧ (w2).heap.size ≤ w3.heap.size) ∧ (w3).heap.size ≤ w4.heap.size) ∧ (w4).heap.size + 1 ≤ (w4.alloc (.cells #[.int .i64 R0.f0, .slice owc0_a1 owc0_n1 owc0_k1, .slice owc0_a2 owc0_n2 owc0_k2] 34)).heap.size) := ⟨Z.out, by rw [World.size_alloc]; exact Nat.le_refl _⟩
  clear b
  obtain ⟨q0_0, q0_1, q0_2⟩ := BA.out.three
  obtain ⟨q1_0, q1_1, q1_2⟩ := OWB0.out.three
  go_wp2_with fail
  obtain ⟨V1, hV⟩ : ∃ V, V = w4.alloc (.cells #[.int .i64 R0.f0, .slice owc0_a1 owc0_n1 owc0_k1, .slice owc0_a2 owc0_n2 owc0_k2] 34) := ⟨_, rfl⟩
  rw [← hV] at B Z OW0 OW1 OW2 BA OWB0 ⊢
  clear hV
  refine (toSender_any _ D0 _ (HR.out.below B.out) hN0).mono ?_
  rintro e w5 ⟨tw5, rfl, o, b⟩
  clear q0_0 q0_1 q0_2 q1_0 q1_1 q1_2
  replace OW0 := hid (OW0.out.below b)
  replace OW1 := hid (OW1.out.below b)
  replace OW2 := hid (OW2.out.below b)
  replace BA := hid (BA.out.below b BA.out.lt)
  replace OWB0 := hid (OWB0.out.below b OWB0.out.lt)
  replace B : Hid (Below w.heap.size w w5) := B.out.trans (b.mono B.out.size)
  replace Z : Hid ((((((((w.heap.size ≤ w.heap.size) ∧ (w).heap.size + 1 ≤ V0.heap.size) ∧ (V0).heap.size ≤ w1.heap.size) ∧ (w1).heap.size ≤ w2.heap.size) ∧ (w2).heap.size ≤ w3.heap.size) ∧ (w3).heap.size ≤ w4.heap.size) ∧ (w4).heap.size + 1 ≤ V1.heap.size) ∧ (V1).heap.size ≤ w5.heap.size) := ⟨Z.out, b.size⟩
  clear b
  have X0 := hid o
  clear o
  obtain ⟨xa1, xn1, xk1, xa2, xn2, xk2, rfl⟩ := X0.out.form
  have b : Below (w5).heap.size (w5) (w5.alloc (.cells #[.int .i64 D0.f0, .slice xa1 xn1 xk1, .slice xa2 xn2 xk2] 34)) := (Below.refl _ _).alloc (Nat.le_refl _) _
  replace OW0 := hid (OW0.out.below b)
  replace OW1 := hid (OW1.out.below b)
  replace OW2 := hid (OW2.out.below b)
  replace X0 := hid (X0.out.below b)
  replace BA := hid (BA.out.below b BA.out.lt)
  replace OWB0 := hid (OWB0.out.below b OWB0.out.lt)
  have BX := hid (boxL_new (w5) [.int .i64 D0.f0, .slice xa1 xn1 xk1, .slice xa2 xn2 xk2] 34)
  replace B : Hid (Below w.heap.size w (w5.alloc (.cells #[.int .i64 D0.f0, .slice xa1 xn1 xk1, .slice xa2 xn2 xk2] 34))) := B.out.trans (b.mono B.out.size)
  replace Z : Hid (((((((((w.heap.size ≤ w.heap.size) ∧ (w).heap.size + 1 ≤ V0.heap.size) ∧ (V0).heap.size ≤ w1.heap.size) ∧ (w1).heap.size ≤ w2.heap.size) ∧ (w2).heap.size ≤ w3.heap.size) ∧ (w3).heap.size ≤ w4.heap.size) ∧ (w4).heap.size + 1 ≤ V1.heap.size) ∧ (V1).heap.size ≤ w5.heap.size) ∧ (w5).heap.size + 1 ≤ (w5.alloc (.cells #[.int .i64 D0.f0, .slice xa1 xn1 xk1, .slice xa2 xn2 xk2] 34)).heap.size) := ⟨Z.out, by rw [World.size_alloc]; exact Nat.le_refl _⟩
  clear b
  obtain ⟨q0_0, q0_1, q0_2⟩ := BA.out.three
  obtain ⟨q1_0, q1_1, q1_2⟩ := OWB0.out.three
  obtain ⟨q2_0, q2_1, q2_2⟩ := BX.out.three
  go_wp2_with fail
  obtain ⟨V2, hV⟩ : ∃ V, V = w5.alloc (.cells #[.int .i64 D0.f0, .slice xa1 xn1 xk1, .slice xa2 xn2 xk2] 34) := ⟨_, rfl⟩
  rw [← hV] at B Z OW0 OW1 OW2 X0 BA OWB0 BX ⊢
  clear hV
  refine (toSpanS_any _ D1 _ (HR1.out.below B.out) hN1).mono ?_
  rintro e w6 ⟨tw6, rfl, o, b⟩
  clear q0_0 q0_1 q0_2 q1_0 q1_1 q1_2 q2_0 q2_1 q2_2
  replace OW0 := hid (OW0.out.below b)
  replace OW1 := hid (OW1.out.below b)
  replace OW2 := hid (OW2.out.below b)
  replace X0 := hid (X0.out.below b)
  replace BA := hid (BA.out.below b BA.out.lt)
  replace OWB0 := hid (OWB0.out.below b OWB0.out.lt)
  replace BX := hid (BX.out.below b BX.out.lt)
  replace B : Hid (Below w.heap.size w w6) := B.out.trans (b.mono B.out.size)
  replace Z : Hid ((((((((((w.heap.size ≤ w.heap.size) ∧ (w).heap.size + 1 ≤ V0.heap.size) ∧ (V0).heap.size ≤ w1.heap.size) ∧ (w1).heap.size ≤ w2.heap.size) ∧ (w2).heap.size ≤ w3.heap.size) ∧ (w3).heap.size ≤ w4.heap.size) ∧ (w4).heap.size + 1 ≤ V1.heap.size) ∧ (V1).heap.size ≤ w5.heap.size) ∧ (w5).heap.size + 1 ≤ V2.heap.size) ∧ (V2).heap.size ≤ w6.heap.size) := ⟨Z.out, b.size⟩
  clear b
  have X1 := hid o
  clear o
  obtain ⟨q0_0, q0_1, q0_2⟩ := BA.out.three
  obtain ⟨q1_0, q1_1, q1_2⟩ := OWB0.out.three
  obtain ⟨q2_0, q2_1, q2_2⟩ := BX.out.three
  go_wp2_with fail
  refine (HI'.out _ _ _ X0.out.reads X1.out.reads).mono ?_
  rintro e w7 ⟨ogu0, ogu1, ogu2, ogS0, ogS1, ogS2, rfl, o0, o1, o2, hdj, hin, b⟩
  clear q0_0 q0_1 q0_2 q1_0 q1_1 q1_2 q2_0 q2_1 q2_2
  replace OW0 := hid (OW0.out.below b)
  replace OW1 := hid (OW1.out.below b)
  replace OW2 := hid (OW2.out.below b)
  replace X0 := hid (X0.out.below b)
  replace X1 := hid (X1.out.below b)
  replace BA := hid (BA.out.below b BA.out.lt)
  replace OWB0 := hid (OWB0.out.below b OWB0.out.lt)
  replace BX := hid (BX.out.below b BX.out.lt)
  replace B : Hid (Below w.heap.size w w7) := B.out.trans (b.mono B.out.size)
  replace Z : Hid (((((((((((w.heap.size ≤ w.heap.size) ∧ (w).heap.size + 1 ≤ V0.heap.size) ∧ (V0).heap.size ≤ w1.heap.size) ∧ (w1).heap.size ≤ w2.heap.size) ∧ (w2).heap.size ≤ w3.heap.size) ∧ (w3).heap.size ≤ w4.heap.size) ∧ (w4).heap.size + 1 ≤ V1.heap.size) ∧ (V1).heap.size ≤ w5.heap.size) ∧ (w5).heap.size + 1 ≤ V2.heap.size) ∧ (V2).heap.size ≤ w6.heap.size) ∧ (w6).heap.size ≤ w7.heap.size) := ⟨Z.out, b.size⟩
  clear b
  obtain ⟨ogc0_a1, ogc0_n1, ogc0_k1, ogc0_a2, ogc0_n2, ogc0_k2, rfl⟩ := o0.form
  have OG0 := hid o0
  have OG0I : Hid (∀ g, ogS0 g → w6.heap.size ≤ g ∧ g < w7.heap.size) := fun g h => hin g (.inl h)
  have OG1 := hid o1
  have OG1I : Hid (∀ g, ogS1 g → w6.heap.size ≤ g ∧ g < w7.heap.size) := fun g h => hin g (.inr (.inl h))
  have OG2 := hid o2
  have OG2I : Hid (∀ g, ogS2 g → w6.heap.size ≤ g ∧ g < w7.heap.size) := fun g h => hin g (.inr (.inr h))
  have OGDJ := hid hdj
  clear hdj hin
  clear o0 o1 o2
  have b : Below (w7).heap.size (w7) (w7.alloc (.cells #[.int .i64 R0.f0, .slice ogc0_a1 ogc0_n1 ogc0_k1, .slice ogc0_a2 ogc0_n2 ogc0_k2] 34)) := (Below.refl _ _).alloc (Nat.le_refl _) _
  replace OW0 := hid (OW0.out.below b)
  replace OW1 := hid (OW1.out.below b)
  replace OW2 := hid (OW2.out.below b)
  replace X0 := hid (X0.out.below b)
  replace X1 := hid (X1.out.below b)
  replace OG0 := hid (OG0.out.below b)
  replace OG1 := hid (OG1.out.below b)
  replace OG2 := hid (OG2.out.below b)
  replace BA := hid (BA.out.below b BA.out.lt)
  replace OWB0 := hid (OWB0.out.below b OWB0.out.lt)
  replace BX := hid (BX.out.below b BX.out.lt)
  have OGB0 := hid (boxL_new (w7) [.int .i64 R0.f0, .slice ogc0_a1 ogc0_n1 ogc0_k1, .slice ogc0_a2 ogc0_n2 ogc0_k2] 34)
  replace B : Hid (Below w.heap.size w (w7.alloc (.cells #[.int .i64 R0.f0, .slice ogc0_a1 ogc0_n1 ogc0_k1, .slice ogc0_a2 ogc0_n2 ogc0_k2] 34))) := B.out.trans (b.mono B.out.size)
  replace Z : Hid ((((((((((((w.heap.size ≤ w.heap.size) ∧ (w).heap.size + 1 ≤ V0.heap.size) ∧ (V0).heap.size ≤ w1.heap.size) ∧ (w1).heap.size ≤ w2.heap.size) ∧ (w2).heap.size ≤ w3.heap.size) ∧ (w3).heap.size ≤ w4.heap.size) ∧ (w4).heap.size + 1 ≤ V1.heap.size) ∧ (V1).heap.size ≤ w5.heap.size) ∧ (w5).heap.size + 1 ≤ V2.heap.size) ∧ (V2).heap.size ≤ w6.heap.size) ∧ (w6).heap.size ≤ w7.heap.size) ∧ (w7).heap.size + 1 ≤ (w7.alloc (.cells #[.int .i64 R0.f0, .slice ogc0_a1 ogc0_n1 ogc0_k1, .slice ogc0_a2 ogc0_n2 ogc0_k2] 34)).heap.size) := ⟨Z.out, by rw [World.size_alloc]; exact Nat.le_refl _⟩
  clear b
  obtain ⟨q0_0, q0_1, q0_2⟩ := BA.out.three
  obtain ⟨q1_0, q1_1, q1_2⟩ := OWB0.out.three
  obtain ⟨q2_0, q2_1, q2_2⟩ := BX.out.three
  obtain ⟨q3_0, q3_1, q3_2⟩ := OGB0.out.three
  go_wp2_with fail
  obtain ⟨V3, hV⟩ : ∃ V, V = w7.alloc (.cells #[.int .i64 R0.f0, .slice ogc0_a1 ogc0_n1 ogc0_k1, .slice ogc0_a2 ogc0_n2 ogc0_k2] 34) := ⟨_, rfl⟩
  rw [← hV] at B Z OW0 OW1 OW2 X0 X1 OG0 OG1 OG2 BA OWB0 BX OGB0 ⊢
  clear hV
  refine (eqSender_same _ _ R0 _ OG0.out.reads OW0.out.reads).mono ?_
  rintro e w8 ⟨rfl, b⟩
  clear q0_0 q0_1 q0_2 q1_0 q1_1 q1_2 q2_0 q2_1 q2_2 q3_0 q3_1 q3_2
  replace OW0 := hid (OW0.out.below b)
  replace OW1 := hid (OW1.out.below b)
  replace OW2 := hid (OW2.out.below b)
  replace X0 := hid (X0.out.below b)
  replace X1 := hid (X1.out.below b)
  replace OG0 := hid (OG0.out.below b)
  replace OG1 := hid (OG1.out.below b)
  replace OG2 := hid (OG2.out.below b)
  replace BA := hid (BA.out.below b BA.out.lt)
  replace OWB0 := hid (OWB0.out.below b OWB0.out.lt)
  replace BX := hid (BX.out.below b BX.out.lt)
  replace OGB0 := hid (OGB0.out.below b OGB0.out.lt)
  replace B : Hid (Below w.heap.size w w8) := B.out.trans (b.mono B.out.size)
  replace Z : Hid (((((((((((((w.heap.size ≤ w.heap.size) ∧ (w).heap.size + 1 ≤ V0.heap.size) ∧ (V0).heap.size ≤ w1.heap.size) ∧ (w1).heap.size ≤ w2.heap.size) ∧ (w2).heap.size ≤ w3.heap.size) ∧ (w3).heap.size ≤ w4.heap.size) ∧ (w4).heap.size + 1 ≤ V1.heap.size) ∧ (V1).heap.size ≤ w5.heap.size) ∧ (w5).heap.size + 1 ≤ V2.heap.size) ∧ (V2).heap.size ≤ w6.heap.size) ∧ (w6).heap.size ≤ w7.heap.size) ∧ (w7).heap.size + 1 ≤ V3.heap.size) ∧ (V3).heap.size ≤ w8.heap.size) := ⟨Z.out, b.size⟩
  clear b
  obtain ⟨q0_0, q0_1, q0_2⟩ := BA.out.three
  obtain ⟨q1_0, q1_1, q1_2⟩ := OWB0.out.three
  obtain ⟨q2_0, q2_1, q2_2⟩ := BX.out.three
  obtain ⟨q3_0, q3_1, q3_2⟩ := OGB0.out.three
  go_wp2_with fail
  refine (keqIntS_same _ _ R1 _ OG1.out.reads OW1.out.reads).mono ?_
  rintro e w9 ⟨rfl, b⟩
  clear q0_0 q0_1 q0_2 q1_0 q1_1 q1_2 q2_0 q2_1 q2_2 q3_0 q3_1 q3_2
  replace OW0 := hid (OW0.out.below b)
  replace OW1 := hid (OW1.out.below b)
  replace OW2 := hid (OW2.out.below b)
  replace X0 := hid (X0.out.below b)
  replace X1 := hid (X1.out.below b)
  replace OG0 := hid (OG0.out.below b)
  replace OG1 := hid (OG1.out.below b)
  replace OG2 := hid (OG2.out.below b)
  replace BA := hid (BA.out.below b BA.out.lt)
  replace OWB0 := hid (OWB0.out.below b OWB0.out.lt)
  replace BX := hid (BX.out.below b BX.out.lt)
  replace OGB0 := hid (OGB0.out.below b OGB0.out.lt)
  replace B : Hid (Below w.heap.size w w9) := B.out.trans (b.mono B.out.size)
  replace Z : Hid ((((((((((((((w.heap.size ≤ w.heap.size) ∧ (w).heap.size + 1 ≤ V0.heap.size) ∧ (V0).heap.size ≤ w1.heap.size) ∧ (w1).heap.size ≤ w2.heap.size) ∧ (w2).heap.size ≤ w3.heap.size) ∧ (w3).heap.size ≤ w4.heap.size) ∧ (w4).heap.size + 1 ≤ V1.heap.size) ∧ (V1).heap.size ≤ w5.heap.size) ∧ (w5).heap.size + 1 ≤ V2.heap.size) ∧ (V2).heap.size ≤ w6.heap.size) ∧ (w6).heap.size ≤ w7.heap.size) ∧ (w7).heap.size + 1 ≤ V3.heap.size) ∧ (V3).heap.size ≤ w8.heap.size) ∧ (w8).heap.size ≤ w9.heap.size) := ⟨Z.out, b.size⟩
  clear b
  obtain ⟨q0_0, q0_1, q0_2⟩ := BA.out.three
  obtain ⟨q1_0, q1_1, q1_2⟩ := OWB0.out.three
  obtain ⟨q2_0, q2_1, q2_2⟩ := BX.out.three
  obtain ⟨q3_0, q3_1, q3_2⟩ := OGB0.out.three
  go_wp2_with fail
  refine (keqIntS_same _ _ R2 _ OG2.out.reads OW2.out.reads).mono ?_
  rintro e w10 ⟨rfl, b⟩
  clear q0_0 q0_1 q0_2 q1_0 q1_1 q1_2 q2_0 q2_1 q2_2 q3_0 q3_1 q3_2
  replace OW0 := hid (OW0.out.below b)
  replace OW1 := hid (OW1.out.below b)
  replace OW2 := hid (OW2.out.below b)
  replace X0 := hid (X0.out.below b)
  replace X1 := hid (X1.out.below b)
  replace OG0 := hid (OG0.out.below b)
  replace OG1 := hid (OG1.out.below b)
  replace OG2 := hid (OG2.out.below b)
  replace BA := hid (BA.out.below b BA.out.lt)
  replace OWB0 := hid (OWB0.out.below b OWB0.out.lt)
  replace BX := hid (BX.out.below b BX.out.lt)
  replace OGB0 := hid (OGB0.out.below b OGB0.out.lt)
  replace B : Hid (Below w.heap.size w w10) := B.out.trans (b.mono B.out.size)
  replace Z : Hid (((((((((((((((w.heap.size ≤ w.heap.size) ∧ (w).heap.size + 1 ≤ V0.heap.size) ∧ (V0).heap.size ≤ w1.heap.size) ∧ (w1).heap.size ≤ w2.heap.size) ∧ (w2).heap.size ≤ w3.heap.size) ∧ (w3).heap.size ≤ w4.heap.size) ∧ (w4).heap.size + 1 ≤ V1.heap.size) ∧ (V1).heap.size ≤ w5.heap.size) ∧ (w5).heap.size + 1 ≤ V2.heap.size) ∧ (V2).heap.size ≤ w6.heap.size) ∧ (w6).heap.size ≤ w7.heap.size) ∧ (w7).heap.size + 1 ≤ V3.heap.size) ∧ (V3).heap.size ≤ w8.heap.size) ∧ (w8).heap.size ≤ w9.heap.size) ∧ (w9).heap.size ≤ w10.heap.size) := ⟨Z.out, b.size⟩
  clear b
  obtain ⟨q0_0, q0_1, q0_2⟩ := BA.out.three
  obtain ⟨q1_0, q1_1, q1_2⟩ := OWB0.out.three
  obtain ⟨q2_0, q2_1, q2_2⟩ := BX.out.three
  obtain ⟨q3_0, q3_1, q3_2⟩ := OGB0.out.three
  go_wp2_with fail
  clear q0_0 q0_1 q0_2 q1_0 q1_1 q1_2 q2_0 q2_1 q2_2 q3_0 q3_1 q3_2
  obtain ⟨q0_0, q0_1, q0_2⟩ := BA.out.three
  obtain ⟨q1_0, q1_1, q1_2⟩ := OWB0.out.three
  obtain ⟨q2_0, q2_1, q2_2⟩ := BX.out.three
  obtain ⟨q3_0, q3_1, q3_2⟩ := OGB0.out.three
  have bd : Below w10.heap.size w10 w10.drew := (Below.refl _ _).drew
  go_region_with (first
    | (go_at_call 21; refine (toSender_any _ D0 _ (HR.out.below B.out.drew) hN0).mono ?_; rintro e w11 ⟨t5, rfl, o5, b5⟩; have OW0_ := hid (OW0.out.below (bd.trans b5)); have OW1_ := hid (OW1.out.below (bd.trans b5)); have OW2_ := hid (OW2.out.below (bd.trans b5)); have X0_ := hid (X0.out.below (bd.trans b5)); have X1_ := hid (X1.out.below (bd.trans b5)); have OG0_ := hid (OG0.out.below (bd.trans b5)); have OG1_ := hid (OG1.out.below (bd.trans b5)); have OG2_ := hid (OG2.out.below (bd.trans b5)); have BA_ := hid (BA.out.below (bd.trans b5) BA.out.lt); have OWB0_ := hid (OWB0.out.below (bd.trans b5) OWB0.out.lt); have BX_ := hid (BX.out.below (bd.trans b5) BX.out.lt); have OGB0_ := hid (OGB0.out.below (bd.trans b5) OGB0.out.lt); have O5 := hid o5; have BB := hid (bd.trans b5); obtain ⟨y0, y1, y2⟩ := BX_.out.three; clear o5 b5)
    | (go_at_call 16; refine (eqSender_same _ _ D0 _ X0_.out.reads O5.out.reads).mono ?_; rintro e w12 ⟨rfl, b6⟩; have B6 := hid b6; clear b6))
  all_goals
    clear y0 y1 y2 q0_0 q0_1 q0_2 q1_0 q1_1 q1_2 q2_0 q2_1 q2_2 q3_0 q3_1 q3_2
    have b : Below w10.heap.size w10 w12 := BB.out.trans (B6.out.mono BB.out.size)
    clear BB B6 O5 OW0_ OW1_ OW2_ X0_ X1_ OG0_ OG1_ OG2_ BA_ OWB0_ BX_ OGB0_
    clear bd
    replace OW0 := hid (OW0.out.below b)
    replace OW1 := hid (OW1.out.below b)
    replace OW2 := hid (OW2.out.below b)
    replace X0 := hid (X0.out.below b)
    replace X1 := hid (X1.out.below b)
    replace OG0 := hid (OG0.out.below b)
    replace OG1 := hid (OG1.out.below b)
    replace OG2 := hid (OG2.out.below b)
    replace BA := hid (BA.out.below b BA.out.lt)
    replace OWB0 := hid (OWB0.out.below b OWB0.out.lt)
    replace BX := hid (BX.out.below b BX.out.lt)
    replace OGB0 := hid (OGB0.out.below b OGB0.out.lt)
    replace B : Hid (Below w.heap.size w w12) := B.out.trans (b.mono B.out.size)
    replace Z : Hid ((((((((((((((((w.heap.size ≤ w.heap.size) ∧ (w).heap.size + 1 ≤ V0.heap.size) ∧ (V0).heap.size ≤ w1.heap.size) ∧ (w1).heap.size ≤ w2.heap.size) ∧ (w2).heap.size ≤ w3.heap.size) ∧ (w3).heap.size ≤ w4.heap.size) ∧ (w4).heap.size + 1 ≤ V1.heap.size) ∧ (V1).heap.size ≤ w5.heap.size) ∧ (w5).heap.size + 1 ≤ V2.heap.size) ∧ (V2).heap.size ≤ w6.heap.size) ∧ (w6).heap.size ≤ w7.heap.size) ∧ (w7).heap.size + 1 ≤ V3.heap.size) ∧ (V3).heap.size ≤ w8.heap.size) ∧ (w8).heap.size ≤ w9.heap.size) ∧ (w9).heap.size ≤ w10.heap.size) ∧ (w10).heap.size ≤ w12.heap.size) := ⟨Z.out, b.size⟩
    clear b
    obtain ⟨q0_0, q0_1, q0_2⟩ := BA.out.three
    obtain ⟨q1_0, q1_1, q1_2⟩ := OWB0.out.three
    obtain ⟨q2_0, q2_1, q2_2⟩ := BX.out.three
    obtain ⟨q3_0, q3_1, q3_2⟩ := OGB0.out.three
    go_wp2_with fail
    refine (toSpanS_any _ D1 _ (HR1.out.below B.out) hN1).mono ?_
    rintro e w13 ⟨tw13, rfl, o, b⟩
    clear q0_0 q0_1 q0_2 q1_0 q1_1 q1_2 q2_0 q2_1 q2_2 q3_0 q3_1 q3_2
    replace OW0 := hid (OW0.out.below b)
    replace OW1 := hid (OW1.out.below b)
    replace OW2 := hid (OW2.out.below b)
    replace X0 := hid (X0.out.below b)
    replace X1 := hid (X1.out.below b)
    replace OG0 := hid (OG0.out.below b)
    replace OG1 := hid (OG1.out.below b)
    replace OG2 := hid (OG2.out.below b)
    replace BA := hid (BA.out.below b BA.out.lt)
    replace OWB0 := hid (OWB0.out.below b OWB0.out.lt)
    replace BX := hid (BX.out.below b BX.out.lt)
    replace OGB0 := hid (OGB0.out.below b OGB0.out.lt)
    replace B : Hid (Below w.heap.size w w13) := B.out.trans (b.mono B.out.size)
    replace Z : Hid (((((((((((((((((w.heap.size ≤ w.heap.size) ∧ (w).heap.size + 1 ≤ V0.heap.size) ∧ (V0).heap.size ≤ w1.heap.size) ∧ (w1).heap.size ≤ w2.heap.size) ∧ (w2).heap.size ≤ w3.heap.size) ∧ (w3).heap.size ≤ w4.heap.size) ∧ (w4).heap.size + 1 ≤ V1.heap.size) ∧ (V1).heap.size ≤ w5.heap.size) ∧ (w5).heap.size + 1 ≤ V2.heap.size) ∧ (V2).heap.size ≤ w6.heap.size) ∧ (w6).heap.size ≤ w7.heap.size) ∧ (w7).heap.size + 1 ≤ V3.heap.size) ∧ (V3).heap.size ≤ w8.heap.size) ∧ (w8).heap.size ≤ w9.heap.size) ∧ (w9).heap.size ≤ w10.heap.size) ∧ (w10).heap.size ≤ w12.heap.size) ∧ (w12).heap.size ≤ w13.heap.size) := ⟨Z.out, b.size⟩
    clear b
    have A1 := hid o
    clear o
    obtain ⟨q0_0, q0_1, q0_2⟩ := BA.out.three
    obtain ⟨q1_0, q1_1, q1_2⟩ := OWB0.out.three
    obtain ⟨q2_0, q2_1, q2_2⟩ := BX.out.three
    obtain ⟨q3_0, q3_1, q3_2⟩ := OGB0.out.three
    go_wp2_with fail
    refine (eqSpanS_same _ _ D1 _ X1.out.reads A1.out.reads).mono ?_
    rintro e w14 ⟨rfl, b⟩
    clear q0_0 q0_1 q0_2 q1_0 q1_1 q1_2 q2_0 q2_1 q2_2 q3_0 q3_1 q3_2
    replace OW0 := hid (OW0.out.below b)
    replace OW1 := hid (OW1.out.below b)
    replace OW2 := hid (OW2.out.below b)
    replace X0 := hid (X0.out.below b)
    replace X1 := hid (X1.out.below b)
    replace OG0 := hid (OG0.out.below b)
    replace OG1 := hid (OG1.out.below b)
    replace OG2 := hid (OG2.out.below b)
    replace A1 := hid (A1.out.below b)
    replace BA := hid (BA.out.below b BA.out.lt)
    replace OWB0 := hid (OWB0.out.below b OWB0.out.lt)
    replace BX := hid (BX.out.below b BX.out.lt)
    replace OGB0 := hid (OGB0.out.below b OGB0.out.lt)
    replace B : Hid (Below w.heap.size w w14) := B.out.trans (b.mono B.out.size)
    replace Z : Hid ((((((((((((((((((w.heap.size ≤ w.heap.size) ∧ (w).heap.size + 1 ≤ V0.heap.size) ∧ (V0).heap.size ≤ w1.heap.size) ∧ (w1).heap.size ≤ w2.heap.size) ∧ (w2).heap.size ≤ w3.heap.size) ∧ (w3).heap.size ≤ w4.heap.size) ∧ (w4).heap.size + 1 ≤ V1.heap.size) ∧ (V1).heap.size ≤ w5.heap.size) ∧ (w5).heap.size + 1 ≤ V2.heap.size) ∧ (V2).heap.size ≤ w6.heap.size) ∧ (w6).heap.size ≤ w7.heap.size) ∧ (w7).heap.size + 1 ≤ V3.heap.size) ∧ (V3).heap.size ≤ w8.heap.size) ∧ (w8).heap.size ≤ w9.heap.size) ∧ (w9).heap.size ≤ w10.heap.size) ∧ (w10).heap.size ≤ w12.heap.size) ∧ (w12).heap.size ≤ w13.heap.size) ∧ (w13).heap.size ≤ w14.heap.size) := ⟨Z.out, b.size⟩
    clear b
    clear A1
    obtain ⟨q0_0, q0_1, q0_2⟩ := BA.out.three
    obtain ⟨q1_0, q1_1, q1_2⟩ := OWB0.out.three
    obtain ⟨q2_0, q2_1, q2_2⟩ := BX.out.three
    obtain ⟨q3_0, q3_1, q3_2⟩ := OGB0.out.three
    go_wp2_with fail
    obtain ⟨mx, hm, mx_0, mx_1⟩ : ∃ m : Int, m = 1 + (sdN D0 : Nat) ∧ 0 ≤ m ∧ m ≤ 4500000 := ⟨_, rfl, by omega, by omega⟩
    have HM_mx := hid hm
    clear hm
    have HIN : Hid (∀ g, (Iv V1.heap.size w5.heap.size) g → V1.heap.size ≤ g ∧ g < w14.heap.size) := fun g h => by have h1 : V1.heap.size ≤ g ∧ g < w5.heap.size := h; have := Z.out; omega
    refine (markSender_any (Iv V1.heap.size w5.heap.size) V1.heap.size _ D0 1 mx _ X0.out HIN.out (by have := Z.out; omega) hN0 (by omega) (by omega) HM_mx.out).mono ?_
    rintro e w15 ⟨rfl, o, b, on⟩
    clear HIN
    clear q0_0 q0_1 q0_2 q1_0 q1_1 q1_2 q2_0 q2_1 q2_2 q3_0 q3_1 q3_2
    replace OW0 := hid (OW0.out.onlyS on (fun g g1 g2 => by have h1 : w3.heap.size ≤ g ∧ g < w4.heap.size := (OW0I.out g g1); have h2 : V1.heap.size ≤ g ∧ g < w5.heap.size := g2; have := Z.out; omega))
    replace OW1 := hid (OW1.out.onlyS on (fun g g1 g2 => by have h1 : w3.heap.size ≤ g ∧ g < w4.heap.size := (OW1I.out g g1); have h2 : V1.heap.size ≤ g ∧ g < w5.heap.size := g2; have := Z.out; omega))
    replace OW2 := hid (OW2.out.onlyS on (fun g g1 g2 => by have h1 : w3.heap.size ≤ g ∧ g < w4.heap.size := (OW2I.out g g1); have h2 : V1.heap.size ≤ g ∧ g < w5.heap.size := g2; have := Z.out; omega))
    replace X0 := hid o
    replace X1 := hid (X1.out.onlyS on (fun g k1 k2 g2 => by have g1 : V2.heap.size ≤ g ∧ g < w6.heap.size := ⟨k1, k2⟩; have h1 : V2.heap.size ≤ g ∧ g < w6.heap.size := g1; have h2 : V1.heap.size ≤ g ∧ g < w5.heap.size := g2; have := Z.out; omega))
    replace OG0 := hid (OG0.out.onlyS on (fun g g1 g2 => by have h1 : w6.heap.size ≤ g ∧ g < w7.heap.size := (OG0I.out g g1); have h2 : V1.heap.size ≤ g ∧ g < w5.heap.size := g2; have := Z.out; omega))
    replace OG1 := hid (OG1.out.onlyS on (fun g g1 g2 => by have h1 : w6.heap.size ≤ g ∧ g < w7.heap.size := (OG1I.out g g1); have h2 : V1.heap.size ≤ g ∧ g < w5.heap.size := g2; have := Z.out; omega))
    replace OG2 := hid (OG2.out.onlyS on (fun g g1 g2 => by have h1 : w6.heap.size ≤ g ∧ g < w7.heap.size := (OG2I.out g g1); have h2 : V1.heap.size ≤ g ∧ g < w5.heap.size := g2; have := Z.out; omega))
    replace BA := hid (BA.out.of_block (on _ BA.out.lt (fun g2 => by have h2 : V1.heap.size ≤ _ ∧ _ < w5.heap.size := g2; have := Z.out; omega)))
    replace OWB0 := hid (OWB0.out.of_block (on _ OWB0.out.lt (fun g2 => by have h2 : V1.heap.size ≤ _ ∧ _ < w5.heap.size := g2; have := Z.out; omega)))
    replace BX := hid (BX.out.of_block (on _ BX.out.lt (fun g2 => by have h2 : V1.heap.size ≤ _ ∧ _ < w5.heap.size := g2; have := Z.out; omega)))
    replace OGB0 := hid (OGB0.out.of_block (on _ OGB0.out.lt (fun g2 => by have h2 : V1.heap.size ≤ _ ∧ _ < w5.heap.size := g2; have := Z.out; omega)))
    replace B : Hid (Below w.heap.size w w15) := B.out.trans (b.mono (by have := Z.out; omega))
    replace Z : Hid (((((((((((((((((((w.heap.size ≤ w.heap.size) ∧ (w).heap.size + 1 ≤ V0.heap.size) ∧ (V0).heap.size ≤ w1.heap.size) ∧ (w1).heap.size ≤ w2.heap.size) ∧ (w2).heap.size ≤ w3.heap.size) ∧ (w3).heap.size ≤ w4.heap.size) ∧ (w4).heap.size + 1 ≤ V1.heap.size) ∧ (V1).heap.size ≤ w5.heap.size) ∧ (w5).heap.size + 1 ≤ V2.heap.size) ∧ (V2).heap.size ≤ w6.heap.size) ∧ (w6).heap.size ≤ w7.heap.size) ∧ (w7).heap.size + 1 ≤ V3.heap.size) ∧ (V3).heap.size ≤ w8.heap.size) ∧ (w8).heap.size ≤ w9.heap.size) ∧ (w9).heap.size ≤ w10.heap.size) ∧ (w10).heap.size ≤ w12.heap.size) ∧ (w12).heap.size ≤ w13.heap.size) ∧ (w13).heap.size ≤ w14.heap.size) ∧ w14.heap.size ≤ w15.heap.size) := ⟨Z.out, b.size⟩
    clear o b on
    obtain ⟨q0_0, q0_1, q0_2⟩ := BA.out.three
    obtain ⟨q1_0, q1_1, q1_2⟩ := OWB0.out.three
    obtain ⟨q2_0, q2_1, q2_2⟩ := BX.out.three
    obtain ⟨q3_0, q3_1, q3_2⟩ := OGB0.out.three
    go_wp2_with fail
    obtain ⟨my, hm, my_0, my_1⟩ : ∃ m : Int, m = mx + (2 * D1.length : Nat) ∧ 0 ≤ m ∧ m ≤ 9000000 := ⟨_, rfl, by omega, by omega⟩
    have HM_my := hid hm
    clear hm
    refine (markSpanS_any V2.heap.size w6.heap.size _ D1 mx my _ X1.out hN1 (by omega) (by omega) HM_my.out).mono ?_
    rintro e w16 ⟨rfl, o, b, onk⟩
    have on : OnlyS (Iv V2.heap.size w6.heap.size) w15 w16 := KOwnS.on (fun g h1 h2 => ⟨h1, h2⟩) onk
    clear onk
    clear q0_0 q0_1 q0_2 q1_0 q1_1 q1_2 q2_0 q2_1 q2_2 q3_0 q3_1 q3_2
    replace OW0 := hid (OW0.out.onlyS on (fun g g1 g2 => by have h1 : w3.heap.size ≤ g ∧ g < w4.heap.size := (OW0I.out g g1); have h2 : V2.heap.size ≤ g ∧ g < w6.heap.size := g2; have := Z.out; omega))
    replace OW1 := hid (OW1.out.onlyS on (fun g g1 g2 => by have h1 : w3.heap.size ≤ g ∧ g < w4.heap.size := (OW1I.out g g1); have h2 : V2.heap.size ≤ g ∧ g < w6.heap.size := g2; have := Z.out; omega))
    replace OW2 := hid (OW2.out.onlyS on (fun g g1 g2 => by have h1 : w3.heap.size ≤ g ∧ g < w4.heap.size := (OW2I.out g g1); have h2 : V2.heap.size ≤ g ∧ g < w6.heap.size := g2; have := Z.out; omega))
    replace X0 := hid (X0.out.onlyS on (fun g g1 g2 => by have h1 : V1.heap.size ≤ g ∧ g < w5.heap.size := g1; have h2 : V2.heap.size ≤ g ∧ g < w6.heap.size := g2; have := Z.out; omega))
    replace X1 := hid o
    replace OG0 := hid (OG0.out.onlyS on (fun g g1 g2 => by have h1 : w6.heap.size ≤ g ∧ g < w7.heap.size := (OG0I.out g g1); have h2 : V2.heap.size ≤ g ∧ g < w6.heap.size := g2; have := Z.out; omega))
    replace OG1 := hid (OG1.out.onlyS on (fun g g1 g2 => by have h1 : w6.heap.size ≤ g ∧ g < w7.heap.size := (OG1I.out g g1); have h2 : V2.heap.size ≤ g ∧ g < w6.heap.size := g2; have := Z.out; omega))
    replace OG2 := hid (OG2.out.onlyS on (fun g g1 g2 => by have h1 : w6.heap.size ≤ g ∧ g < w7.heap.size := (OG2I.out g g1); have h2 : V2.heap.size ≤ g ∧ g < w6.heap.size := g2; have := Z.out; omega))
    replace BA := hid (BA.out.of_block (on _ BA.out.lt (fun g2 => by have h2 : V2.heap.size ≤ _ ∧ _ < w6.heap.size := g2; have := Z.out; omega)))
    replace OWB0 := hid (OWB0.out.of_block (on _ OWB0.out.lt (fun g2 => by have h2 : V2.heap.size ≤ _ ∧ _ < w6.heap.size := g2; have := Z.out; omega)))
    replace BX := hid (BX.out.of_block (on _ BX.out.lt (fun g2 => by have h2 : V2.heap.size ≤ _ ∧ _ < w6.heap.size := g2; have := Z.out; omega)))
    replace OGB0 := hid (OGB0.out.of_block (on _ OGB0.out.lt (fun g2 => by have h2 : V2.heap.size ≤ _ ∧ _ < w6.heap.size := g2; have := Z.out; omega)))
    replace B : Hid (Below w.heap.size w w16) := B.out.trans (b.mono (by have := Z.out; omega))
    replace Z : Hid ((((((((((((((((((((w.heap.size ≤ w.heap.size) ∧ (w).heap.size + 1 ≤ V0.heap.size) ∧ (V0).heap.size ≤ w1.heap.size) ∧ (w1).heap.size ≤ w2.heap.size) ∧ (w2).heap.size ≤ w3.heap.size) ∧ (w3).heap.size ≤ w4.heap.size) ∧ (w4).heap.size + 1 ≤ V1.heap.size) ∧ (V1).heap.size ≤ w5.heap.size) ∧ (w5).heap.size + 1 ≤ V2.heap.size) ∧ (V2).heap.size ≤ w6.heap.size) ∧ (w6).heap.size ≤ w7.heap.size) ∧ (w7).heap.size + 1 ≤ V3.heap.size) ∧ (V3).heap.size ≤ w8.heap.size) ∧ (w8).heap.size ≤ w9.heap.size) ∧ (w9).heap.size ≤ w10.heap.size) ∧ (w10).heap.size ≤ w12.heap.size) ∧ (w12).heap.size ≤ w13.heap.size) ∧ (w13).heap.size ≤ w14.heap.size) ∧ w14.heap.size ≤ w15.heap.size) ∧ w15.heap.size ≤ w16.heap.size) := ⟨Z.out, b.size⟩
    clear o b on
    have hdy : decide (my < 0) = false := by rw [decide_eq_false_iff_not]; omega
    have hdx : decide (mx < 0) = false := by rw [decide_eq_false_iff_not]; omega
    obtain ⟨q0_0, q0_1, q0_2⟩ := BA.out.three
    obtain ⟨q1_0, q1_1, q1_2⟩ := OWB0.out.three
    obtain ⟨q2_0, q2_1, q2_2⟩ := BX.out.three
    obtain ⟨q3_0, q3_1, q3_2⟩ := OGB0.out.three
    go_wp2_with fail
    refine (eqSender_same _ _ R0 _ OG0.out.reads OW0.out.reads).mono ?_
    rintro e w17 ⟨rfl, b⟩
    clear q0_0 q0_1 q0_2 q1_0 q1_1 q1_2 q2_0 q2_1 q2_2 q3_0 q3_1 q3_2
    replace OW0 := hid (OW0.out.below b)
    replace OW1 := hid (OW1.out.below b)
    replace OW2 := hid (OW2.out.below b)
    replace X0 := hid (X0.out.below b)
    replace X1 := hid (X1.out.below b)
    replace OG0 := hid (OG0.out.below b)
    replace OG1 := hid (OG1.out.below b)
    replace OG2 := hid (OG2.out.below b)
    replace BA := hid (BA.out.below b BA.out.lt)
    replace OWB0 := hid (OWB0.out.below b OWB0.out.lt)
    replace BX := hid (BX.out.below b BX.out.lt)
    replace OGB0 := hid (OGB0.out.below b OGB0.out.lt)
    replace B : Hid (Below w.heap.size w w17) := B.out.trans (b.mono B.out.size)
    replace Z : Hid (((((((((((((((((((((w.heap.size ≤ w.heap.size) ∧ (w).heap.size + 1 ≤ V0.heap.size) ∧ (V0).heap.size ≤ w1.heap.size) ∧ (w1).heap.size ≤ w2.heap.size) ∧ (w2).heap.size ≤ w3.heap.size) ∧ (w3).heap.size ≤ w4.heap.size) ∧ (w4).heap.size + 1 ≤ V1.heap.size) ∧ (V1).heap.size ≤ w5.heap.size) ∧ (w5).heap.size + 1 ≤ V2.heap.size) ∧ (V2).heap.size ≤ w6.heap.size) ∧ (w6).heap.size ≤ w7.heap.size) ∧ (w7).heap.size + 1 ≤ V3.heap.size) ∧ (V3).heap.size ≤ w8.heap.size) ∧ (w8).heap.size ≤ w9.heap.size) ∧ (w9).heap.size ≤ w10.heap.size) ∧ (w10).heap.size ≤ w12.heap.size) ∧ (w12).heap.size ≤ w13.heap.size) ∧ (w13).heap.size ≤ w14.heap.size) ∧ w14.heap.size ≤ w15.heap.size) ∧ w15.heap.size ≤ w16.heap.size) ∧ (w16).heap.size ≤ w17.heap.size) := ⟨Z.out, b.size⟩
    clear b
    obtain ⟨q0_0, q0_1, q0_2⟩ := BA.out.three
    obtain ⟨q1_0, q1_1, q1_2⟩ := OWB0.out.three
    obtain ⟨q2_0, q2_1, q2_2⟩ := BX.out.three
    obtain ⟨q3_0, q3_1, q3_2⟩ := OGB0.out.three
    go_wp2_with fail
    refine (keqIntS_same _ _ R1 _ OG1.out.reads OW1.out.reads).mono ?_
    rintro e w18 ⟨rfl, b⟩
    clear q0_0 q0_1 q0_2 q1_0 q1_1 q1_2 q2_0 q2_1 q2_2 q3_0 q3_1 q3_2
    replace OW0 := hid (OW0.out.below b)
    replace OW1 := hid (OW1.out.below b)
    replace OW2 := hid (OW2.out.below b)
    replace X0 := hid (X0.out.below b)
    replace X1 := hid (X1.out.below b)
    replace OG0 := hid (OG0.out.below b)
    replace OG1 := hid (OG1.out.below b)
    replace OG2 := hid (OG2.out.below b)
    replace BA := hid (BA.out.below b BA.out.lt)
    replace OWB0 := hid (OWB0.out.below b OWB0.out.lt)
    replace BX := hid (BX.out.below b BX.out.lt)
    replace OGB0 := hid (OGB0.out.below b OGB0.out.lt)
    replace B : Hid (Below w.heap.size w w18) := B.out.trans (b.mono B.out.size)
    replace Z : Hid ((((((((((((((((((((((w.heap.size ≤ w.heap.size) ∧ (w).heap.size + 1 ≤ V0.heap.size) ∧ (V0).heap.size ≤ w1.heap.size) ∧ (w1).heap.size ≤ w2.heap.size) ∧ (w2).heap.size ≤ w3.heap.size) ∧ (w3).heap.size ≤ w4.heap.size) ∧ (w4).heap.size + 1 ≤ V1.heap.size) ∧ (V1).heap.size ≤ w5.heap.size) ∧ (w5).heap.size + 1 ≤ V2.heap.size) ∧ (V2).heap.size ≤ w6.heap.size) ∧ (w6).heap.size ≤ w7.heap.size) ∧ (w7).heap.size + 1 ≤ V3.heap.size) ∧ (V3).heap.size ≤ w8.heap.size) ∧ (w8).heap.size ≤ w9.heap.size) ∧ (w9).heap.size ≤ w10.heap.size) ∧ (w10).heap.size ≤ w12.heap.size) ∧ (w12).heap.size ≤ w13.heap.size) ∧ (w13).heap.size ≤ w14.heap.size) ∧ w14.heap.size ≤ w15.heap.size) ∧ w15.heap.size ≤ w16.heap.size) ∧ (w16).heap.size ≤ w17.heap.size) ∧ (w17).heap.size ≤ w18.heap.size) := ⟨Z.out, b.size⟩
    clear b
    obtain ⟨q0_0, q0_1, q0_2⟩ := BA.out.three
    obtain ⟨q1_0, q1_1, q1_2⟩ := OWB0.out.three
    obtain ⟨q2_0, q2_1, q2_2⟩ := BX.out.three
    obtain ⟨q3_0, q3_1, q3_2⟩ := OGB0.out.three
    go_wp2_with fail
    refine (keqIntS_same _ _ R2 _ OG2.out.reads OW2.out.reads).mono ?_
    rintro e w19 ⟨rfl, b⟩
    clear q0_0 q0_1 q0_2 q1_0 q1_1 q1_2 q2_0 q2_1 q2_2 q3_0 q3_1 q3_2
    replace OW0 := hid (OW0.out.below b)
    replace OW1 := hid (OW1.out.below b)
    replace OW2 := hid (OW2.out.below b)
    replace X0 := hid (X0.out.below b)
    replace X1 := hid (X1.out.below b)
    replace OG0 := hid (OG0.out.below b)
    replace OG1 := hid (OG1.out.below b)
    replace OG2 := hid (OG2.out.below b)
    replace BA := hid (BA.out.below b BA.out.lt)
    replace OWB0 := hid (OWB0.out.below b OWB0.out.lt)
    replace BX := hid (BX.out.below b BX.out.lt)
    replace OGB0 := hid (OGB0.out.below b OGB0.out.lt)
    replace B : Hid (Below w.heap.size w w19) := B.out.trans (b.mono B.out.size)
    replace Z : Hid (((((((((((((((((((((((w.heap.size ≤ w.heap.size) ∧ (w).heap.size + 1 ≤ V0.heap.size) ∧ (V0).heap.size ≤ w1.heap.size) ∧ (w1).heap.size ≤ w2.heap.size) ∧ (w2).heap.size ≤ w3.heap.size) ∧ (w3).heap.size ≤ w4.heap.size) ∧ (w4).heap.size + 1 ≤ V1.heap.size) ∧ (V1).heap.size ≤ w5.heap.size) ∧ (w5).heap.size + 1 ≤ V2.heap.size) ∧ (V2).heap.size ≤ w6.heap.size) ∧ (w6).heap.size ≤ w7.heap.size) ∧ (w7).heap.size + 1 ≤ V3.heap.size) ∧ (V3).heap.size ≤ w8.heap.size) ∧ (w8).heap.size ≤ w9.heap.size) ∧ (w9).heap.size ≤ w10.heap.size) ∧ (w10).heap.size ≤ w12.heap.size) ∧ (w12).heap.size ≤ w13.heap.size) ∧ (w13).heap.size ≤ w14.heap.size) ∧ w14.heap.size ≤ w15.heap.size) ∧ w15.heap.size ≤ w16.heap.size) ∧ (w16).heap.size ≤ w17.heap.size) ∧ (w17).heap.size ≤ w18.heap.size) ∧ (w18).heap.size ≤ w19.heap.size) := ⟨Z.out, b.size⟩
    clear b
    clear X0
    clear X1
    obtain ⟨q0_0, q0_1, q0_2⟩ := BA.out.three
    obtain ⟨q1_0, q1_1, q1_2⟩ := OWB0.out.three
    obtain ⟨q2_0, q2_1, q2_2⟩ := BX.out.three
    obtain ⟨q3_0, q3_1, q3_2⟩ := OGB0.out.three
    go_wp2_with fail
    obtain ⟨m0, hm, m0_0, m0_1⟩ : ∃ m : Int, m = 1 + (sdN R0 : Nat) ∧ 0 ≤ m ∧ m ≤ 4500000 := ⟨_, rfl, by omega, by omega⟩
    have HM_m0 := hid hm
    clear hm
    have HIN : Hid (∀ g, (ogS0) g → w6.heap.size ≤ g ∧ g < w19.heap.size) := fun g h => by have h1 : w6.heap.size ≤ g ∧ g < w7.heap.size := OG0I.out g h; have := Z.out; omega
    refine (markSender_any (ogS0) w6.heap.size _ R0 1 m0 _ OG0.out HIN.out (by have := Z.out; omega) hYN0 (by omega) (by omega) HM_m0.out).mono ?_
    rintro e w20 ⟨rfl, o, b, on⟩
    clear HIN
    clear q0_0 q0_1 q0_2 q1_0 q1_1 q1_2 q2_0 q2_1 q2_2 q3_0 q3_1 q3_2
    replace OW0 := hid (OW0.out.onlyS on (fun g g1 g2 => by have h1 : w3.heap.size ≤ g ∧ g < w4.heap.size := (OW0I.out g g1); have h2 : w6.heap.size ≤ g ∧ g < w7.heap.size := (OG0I.out g g2); have := Z.out; omega))
    replace OW1 := hid (OW1.out.onlyS on (fun g g1 g2 => by have h1 : w3.heap.size ≤ g ∧ g < w4.heap.size := (OW1I.out g g1); have h2 : w6.heap.size ≤ g ∧ g < w7.heap.size := (OG0I.out g g2); have := Z.out; omega))
    replace OW2 := hid (OW2.out.onlyS on (fun g g1 g2 => by have h1 : w3.heap.size ≤ g ∧ g < w4.heap.size := (OW2I.out g g1); have h2 : w6.heap.size ≤ g ∧ g < w7.heap.size := (OG0I.out g g2); have := Z.out; omega))
    replace OG0 := hid o
    replace OG1 := hid (OG1.out.onlyS on (fun g g1 g2 => OGDJ.out.1 g g2 g1))
    replace OG2 := hid (OG2.out.onlyS on (fun g g1 g2 => OGDJ.out.2.1 g g2 g1))
    replace BA := hid (BA.out.of_block (on _ BA.out.lt (fun g2 => by have h2 : w6.heap.size ≤ _ ∧ _ < w7.heap.size := OG0I.out _ g2; have := Z.out; omega)))
    replace OWB0 := hid (OWB0.out.of_block (on _ OWB0.out.lt (fun g2 => by have h2 : w6.heap.size ≤ _ ∧ _ < w7.heap.size := OG0I.out _ g2; have := Z.out; omega)))
    replace BX := hid (BX.out.of_block (on _ BX.out.lt (fun g2 => by have h2 : w6.heap.size ≤ _ ∧ _ < w7.heap.size := OG0I.out _ g2; have := Z.out; omega)))
    replace OGB0 := hid (OGB0.out.of_block (on _ OGB0.out.lt (fun g2 => by have h2 : w6.heap.size ≤ _ ∧ _ < w7.heap.size := OG0I.out _ g2; have := Z.out; omega)))
    replace B : Hid (Below w.heap.size w w20) := B.out.trans (b.mono (by have := Z.out; omega))
    replace Z : Hid ((((((((((((((((((((((((w.heap.size ≤ w.heap.size) ∧ (w).heap.size + 1 ≤ V0.heap.size) ∧ (V0).heap.size ≤ w1.heap.size) ∧ (w1).heap.size ≤ w2.heap.size) ∧ (w2).heap.size ≤ w3.heap.size) ∧ (w3).heap.size ≤ w4.heap.size) ∧ (w4).heap.size + 1 ≤ V1.heap.size) ∧ (V1).heap.size ≤ w5.heap.size) ∧ (w5).heap.size + 1 ≤ V2.heap.size) ∧ (V2).heap.size ≤ w6.heap.size) ∧ (w6).heap.size ≤ w7.heap.size) ∧ (w7).heap.size + 1 ≤ V3.heap.size) ∧ (V3).heap.size ≤ w8.heap.size) ∧ (w8).heap.size ≤ w9.heap.size) ∧ (w9).heap.size ≤ w10.heap.size) ∧ (w10).heap.size ≤ w12.heap.size) ∧ (w12).heap.size ≤ w13.heap.size) ∧ (w13).heap.size ≤ w14.heap.size) ∧ w14.heap.size ≤ w15.heap.size) ∧ w15.heap.size ≤ w16.heap.size) ∧ (w16).heap.size ≤ w17.heap.size) ∧ (w17).heap.size ≤ w18.heap.size) ∧ (w18).heap.size ≤ w19.heap.size) ∧ w19.heap.size ≤ w20.heap.size) := ⟨Z.out, b.size⟩
    clear o b on
    have hdm0 : decide (m0 < 0) = false := by rw [decide_eq_false_iff_not]; omega
    obtain ⟨q0_0, q0_1, q0_2⟩ := BA.out.three
    obtain ⟨q1_0, q1_1, q1_2⟩ := OWB0.out.three
    obtain ⟨q2_0, q2_1, q2_2⟩ := BX.out.three
    obtain ⟨q3_0, q3_1, q3_2⟩ := OGB0.out.three
    go_wp2_with fail
    obtain ⟨m1, hm, m1_0, m1_1⟩ : ∃ m : Int, m = m0 + (R1.length : Nat) ∧ 0 ≤ m ∧ m ≤ 9000000 := ⟨_, rfl, by omega, by omega⟩
    have HM_m1 := hid hm
    clear hm
    obtain ⟨l_, e_, ko, hS⟩ := OG1.out
    have KO := hid ko
    have HSS := hid hS
    clear ko hS
    refine (kmarkIntS_any l_ e_ _ R1 m0 m1 _ KO.out hy1 (by omega) (by omega) HM_m1.out).mono ?_
    rintro e w21 ⟨rfl, ok, bk, onk⟩
    have on : OnlyS (ogS1) w20 w21 := KOwnS.on HSS.out onk
    have o : KOwnS (ogS1) w21 ogu1 (kmarks m0 R1.length) := ⟨l_, e_, ok, HSS.out⟩
    have b : Below w6.heap.size w20 w21 := KOwnS.frame KO.out HSS.out (fun g h => (OG1I.out g h).1) (by have := Z.out; omega) bk onk
    clear ok bk onk KO HSS
    clear q0_0 q0_1 q0_2 q1_0 q1_1 q1_2 q2_0 q2_1 q2_2 q3_0 q3_1 q3_2
    replace OW0 := hid (OW0.out.onlyS on (fun g g1 g2 => by have h1 : w3.heap.size ≤ g ∧ g < w4.heap.size := (OW0I.out g g1); have h2 : w6.heap.size ≤ g ∧ g < w7.heap.size := (OG1I.out g g2); have := Z.out; omega))
    replace OW1 := hid (OW1.out.onlyS on (fun g g1 g2 => by have h1 : w3.heap.size ≤ g ∧ g < w4.heap.size := (OW1I.out g g1); have h2 : w6.heap.size ≤ g ∧ g < w7.heap.size := (OG1I.out g g2); have := Z.out; omega))
    replace OW2 := hid (OW2.out.onlyS on (fun g g1 g2 => by have h1 : w3.heap.size ≤ g ∧ g < w4.heap.size := (OW2I.out g g1); have h2 : w6.heap.size ≤ g ∧ g < w7.heap.size := (OG1I.out g g2); have := Z.out; omega))
    replace OG0 := hid (OG0.out.onlyS on (fun g g1 g2 => OGDJ.out.1 g g1 g2))
    replace OG1 := hid o
    replace OG2 := hid (OG2.out.onlyS on (fun g g1 g2 => OGDJ.out.2.2 g g2 g1))
    replace BA := hid (BA.out.of_block (on _ BA.out.lt (fun g2 => by have h2 : w6.heap.size ≤ _ ∧ _ < w7.heap.size := OG1I.out _ g2; have := Z.out; omega)))
    replace OWB0 := hid (OWB0.out.of_block (on _ OWB0.out.lt (fun g2 => by have h2 : w6.heap.size ≤ _ ∧ _ < w7.heap.size := OG1I.out _ g2; have := Z.out; omega)))
    replace BX := hid (BX.out.of_block (on _ BX.out.lt (fun g2 => by have h2 : w6.heap.size ≤ _ ∧ _ < w7.heap.size := OG1I.out _ g2; have := Z.out; omega)))
    replace OGB0 := hid (OGB0.out.of_block (on _ OGB0.out.lt (fun g2 => by have h2 : w6.heap.size ≤ _ ∧ _ < w7.heap.size := OG1I.out _ g2; have := Z.out; omega)))
    replace B : Hid (Below w.heap.size w w21) := B.out.trans (b.mono (by have := Z.out; omega))
    replace Z : Hid (((((((((((((((((((((((((w.heap.size ≤ w.heap.size) ∧ (w).heap.size + 1 ≤ V0.heap.size) ∧ (V0).heap.size ≤ w1.heap.size) ∧ (w1).heap.size ≤ w2.heap.size) ∧ (w2).heap.size ≤ w3.heap.size) ∧ (w3).heap.size ≤ w4.heap.size) ∧ (w4).heap.size + 1 ≤ V1.heap.size) ∧ (V1).heap.size ≤ w5.heap.size) ∧ (w5).heap.size + 1 ≤ V2.heap.size) ∧ (V2).heap.size ≤ w6.heap.size) ∧ (w6).heap.size ≤ w7.heap.size) ∧ (w7).heap.size + 1 ≤ V3.heap.size) ∧ (V3).heap.size ≤ w8.heap.size) ∧ (w8).heap.size ≤ w9.heap.size) ∧ (w9).heap.size ≤ w10.heap.size) ∧ (w10).heap.size ≤ w12.heap.size) ∧ (w12).heap.size ≤ w13.heap.size) ∧ (w13).heap.size ≤ w14.heap.size) ∧ w14.heap.size ≤ w15.heap.size) ∧ w15.heap.size ≤ w16.heap.size) ∧ (w16).heap.size ≤ w17.heap.size) ∧ (w17).heap.size ≤ w18.heap.size) ∧ (w18).heap.size ≤ w19.heap.size) ∧ w19.heap.size ≤ w20.heap.size) ∧ w20.heap.size ≤ w21.heap.size) := ⟨Z.out, b.size⟩
    clear o b on
    have hdm1 : decide (m1 < 0) = false := by rw [decide_eq_false_iff_not]; omega
    obtain ⟨q0_0, q0_1, q0_2⟩ := BA.out.three
    obtain ⟨q1_0, q1_1, q1_2⟩ := OWB0.out.three
    obtain ⟨q2_0, q2_1, q2_2⟩ := BX.out.three
    obtain ⟨q3_0, q3_1, q3_2⟩ := OGB0.out.three
    go_wp2_with fail
    obtain ⟨m2, hm, m2_0, m2_1⟩ : ∃ m : Int, m = m1 + (R2.length : Nat) ∧ 0 ≤ m ∧ m ≤ 12000000 := ⟨_, rfl, by omega, by omega⟩
    have HM_m2 := hid hm
    clear hm
    obtain ⟨l_, e_, ko, hS⟩ := OG2.out
    have KO := hid ko
    have HSS := hid hS
    clear ko hS
    refine (kmarkIntS_any l_ e_ _ R2 m1 m2 _ KO.out hy2 (by omega) (by omega) HM_m2.out).mono ?_
    rintro e w22 ⟨rfl, ok, bk, onk⟩
    have on : OnlyS (ogS2) w21 w22 := KOwnS.on HSS.out onk
    have o : KOwnS (ogS2) w22 ogu2 (kmarks m1 R2.length) := ⟨l_, e_, ok, HSS.out⟩
    have b : Below w6.heap.size w21 w22 := KOwnS.frame KO.out HSS.out (fun g h => (OG2I.out g h).1) (by have := Z.out; omega) bk onk
    clear ok bk onk KO HSS
    clear q0_0 q0_1 q0_2 q1_0 q1_1 q1_2 q2_0 q2_1 q2_2 q3_0 q3_1 q3_2
    replace OW0 := hid (OW0.out.onlyS on (fun g g1 g2 => by have h1 : w3.heap.size ≤ g ∧ g < w4.heap.size := (OW0I.out g g1); have h2 : w6.heap.size ≤ g ∧ g < w7.heap.size := (OG2I.out g g2); have := Z.out; omega))
    replace OW1 := hid (OW1.out.onlyS on (fun g g1 g2 => by have h1 : w3.heap.size ≤ g ∧ g < w4.heap.size := (OW1I.out g g1); have h2 : w6.heap.size ≤ g ∧ g < w7.heap.size := (OG2I.out g g2); have := Z.out; omega))
    replace OW2 := hid (OW2.out.onlyS on (fun g g1 g2 => by have h1 : w3.heap.size ≤ g ∧ g < w4.heap.size := (OW2I.out g g1); have h2 : w6.heap.size ≤ g ∧ g < w7.heap.size := (OG2I.out g g2); have := Z.out; omega))
    replace OG0 := hid (OG0.out.onlyS on (fun g g1 g2 => OGDJ.out.2.1 g g1 g2))
    replace OG1 := hid (OG1.out.onlyS on (fun g g1 g2 => OGDJ.out.2.2 g g1 g2))
    replace OG2 := hid o
    replace BA := hid (BA.out.of_block (on _ BA.out.lt (fun g2 => by have h2 : w6.heap.size ≤ _ ∧ _ < w7.heap.size := OG2I.out _ g2; have := Z.out; omega)))
    replace OWB0 := hid (OWB0.out.of_block (on _ OWB0.out.lt (fun g2 => by have h2 : w6.heap.size ≤ _ ∧ _ < w7.heap.size := OG2I.out _ g2; have := Z.out; omega)))
    replace BX := hid (BX.out.of_block (on _ BX.out.lt (fun g2 => by have h2 : w6.heap.size ≤ _ ∧ _ < w7.heap.size := OG2I.out _ g2; have := Z.out; omega)))
    replace OGB0 := hid (OGB0.out.of_block (on _ OGB0.out.lt (fun g2 => by have h2 : w6.heap.size ≤ _ ∧ _ < w7.heap.size := OG2I.out _ g2; have := Z.out; omega)))
    replace B : Hid (Below w.heap.size w w22) := B.out.trans (b.mono (by have := Z.out; omega))
    replace Z : Hid ((((((((((((((((((((((((((w.heap.size ≤ w.heap.size) ∧ (w).heap.size + 1 ≤ V0.heap.size) ∧ (V0).heap.size ≤ w1.heap.size) ∧ (w1).heap.size ≤ w2.heap.size) ∧ (w2).heap.size ≤ w3.heap.size) ∧ (w3).heap.size ≤ w4.heap.size) ∧ (w4).heap.size + 1 ≤ V1.heap.size) ∧ (V1).heap.size ≤ w5.heap.size) ∧ (w5).heap.size + 1 ≤ V2.heap.size) ∧ (V2).heap.size ≤ w6.heap.size) ∧ (w6).heap.size ≤ w7.heap.size) ∧ (w7).heap.size + 1 ≤ V3.heap.size) ∧ (V3).heap.size ≤ w8.heap.size) ∧ (w8).heap.size ≤ w9.heap.size) ∧ (w9).heap.size ≤ w10.heap.size) ∧ (w10).heap.size ≤ w12.heap.size) ∧ (w12).heap.size ≤ w13.heap.size) ∧ (w13).heap.size ≤ w14.heap.size) ∧ w14.heap.size ≤ w15.heap.size) ∧ w15.heap.size ≤ w16.heap.size) ∧ (w16).heap.size ≤ w17.heap.size) ∧ (w17).heap.size ≤ w18.heap.size) ∧ (w18).heap.size ≤ w19.heap.size) ∧ w19.heap.size ≤ w20.heap.size) ∧ w20.heap.size ≤ w21.heap.size) ∧ w21.heap.size ≤ w22.heap.size) := ⟨Z.out, b.size⟩
    clear o b on
    have hdm2 : decide (m2 < 0) = false := by rw [decide_eq_false_iff_not]; omega
    obtain ⟨q0_0, q0_1, q0_2⟩ := BA.out.three
    obtain ⟨q1_0, q1_1, q1_2⟩ := OWB0.out.three
    obtain ⟨q2_0, q2_1, q2_2⟩ := BX.out.three
    obtain ⟨q3_0, q3_1, q3_2⟩ := OGB0.out.three
    go_wp2_with fail
    refine (heldSender_any _ R0 1 m0 _ OG0.out.reads hYN0 (by omega) (by omega) HM_m0.out).mono ?_
    rintro e w23 ⟨rfl, b⟩
    clear q0_0 q0_1 q0_2 q1_0 q1_1 q1_2 q2_0 q2_1 q2_2 q3_0 q3_1 q3_2
    replace OW0 := hid (OW0.out.below b)
    replace OW1 := hid (OW1.out.below b)
    replace OW2 := hid (OW2.out.below b)
    replace OG0 := hid (OG0.out.below b)
    replace OG1 := hid (OG1.out.below b)
    replace OG2 := hid (OG2.out.below b)
    replace BA := hid (BA.out.below b BA.out.lt)
    replace OWB0 := hid (OWB0.out.below b OWB0.out.lt)
    replace BX := hid (BX.out.below b BX.out.lt)
    replace OGB0 := hid (OGB0.out.below b OGB0.out.lt)
    replace B : Hid (Below w.heap.size w w23) := B.out.trans (b.mono B.out.size)
    replace Z : Hid (((((((((((((((((((((((((((w.heap.size ≤ w.heap.size) ∧ (w).heap.size + 1 ≤ V0.heap.size) ∧ (V0).heap.size ≤ w1.heap.size) ∧ (w1).heap.size ≤ w2.heap.size) ∧ (w2).heap.size ≤ w3.heap.size) ∧ (w3).heap.size ≤ w4.heap.size) ∧ (w4).heap.size + 1 ≤ V1.heap.size) ∧ (V1).heap.size ≤ w5.heap.size) ∧ (w5).heap.size + 1 ≤ V2.heap.size) ∧ (V2).heap.size ≤ w6.heap.size) ∧ (w6).heap.size ≤ w7.heap.size) ∧ (w7).heap.size + 1 ≤ V3.heap.size) ∧ (V3).heap.size ≤ w8.heap.size) ∧ (w8).heap.size ≤ w9.heap.size) ∧ (w9).heap.size ≤ w10.heap.size) ∧ (w10).heap.size ≤ w12.heap.size) ∧ (w12).heap.size ≤ w13.heap.size) ∧ (w13).heap.size ≤ w14.heap.size) ∧ w14.heap.size ≤ w15.heap.size) ∧ w15.heap.size ≤ w16.heap.size) ∧ (w16).heap.size ≤ w17.heap.size) ∧ (w17).heap.size ≤ w18.heap.size) ∧ (w18).heap.size ≤ w19.heap.size) ∧ w19.heap.size ≤ w20.heap.size) ∧ w20.heap.size ≤ w21.heap.size) ∧ w21.heap.size ≤ w22.heap.size) ∧ (w22).heap.size ≤ w23.heap.size) := ⟨Z.out, b.size⟩
    clear b
    obtain ⟨q0_0, q0_1, q0_2⟩ := BA.out.three
    obtain ⟨q1_0, q1_1, q1_2⟩ := OWB0.out.three
    obtain ⟨q2_0, q2_1, q2_2⟩ := BX.out.three
    obtain ⟨q3_0, q3_1, q3_2⟩ := OGB0.out.three
    go_wp2_with fail
    refine (kheldIntS_any _ R1.length m0 m1 _ OG1.out.reads hy1 (by omega) (by omega) HM_m1.out).mono ?_
    rintro e w' ⟨rfl, hw⟩; obtain rfl := hw.symm
    clear q0_0 q0_1 q0_2 q1_0 q1_1 q1_2 q2_0 q2_1 q2_2 q3_0 q3_1 q3_2
    obtain ⟨q0_0, q0_1, q0_2⟩ := BA.out.three
    obtain ⟨q1_0, q1_1, q1_2⟩ := OWB0.out.three
    obtain ⟨q2_0, q2_1, q2_2⟩ := BX.out.three
    obtain ⟨q3_0, q3_1, q3_2⟩ := OGB0.out.three
    go_wp2_with fail
    refine (kheldIntS_any _ R2.length m1 m2 _ OG2.out.reads hy2 (by omega) (by omega) HM_m2.out).mono ?_
    rintro e w' ⟨rfl, hw⟩; obtain rfl := hw.symm
    clear q0_0 q0_1 q0_2 q1_0 q1_1 q1_2 q2_0 q2_1 q2_2 q3_0 q3_1 q3_2
    obtain ⟨q0_0, q0_1, q0_2⟩ := BA.out.three
    obtain ⟨q1_0, q1_1, q1_2⟩ := OWB0.out.three
    obtain ⟨q2_0, q2_1, q2_2⟩ := BX.out.three
    obtain ⟨q3_0, q3_1, q3_2⟩ := OGB0.out.three
    go_wp2_with fail
    refine (toSender_any _ D0 _ (HR.out.below B.out) hN0).mono ?_
    rintro e w24 ⟨tw24, rfl, o, b⟩
    clear q0_0 q0_1 q0_2 q1_0 q1_1 q1_2 q2_0 q2_1 q2_2 q3_0 q3_1 q3_2
    replace OW0 := hid (OW0.out.below b)
    replace OW1 := hid (OW1.out.below b)
    replace OW2 := hid (OW2.out.below b)
    replace OG0 := hid (OG0.out.below b)
    replace OG1 := hid (OG1.out.below b)
    replace OG2 := hid (OG2.out.below b)
    replace BA := hid (BA.out.below b BA.out.lt)
    replace OWB0 := hid (OWB0.out.below b OWB0.out.lt)
    replace BX := hid (BX.out.below b BX.out.lt)
    replace OGB0 := hid (OGB0.out.below b OGB0.out.lt)
    replace B : Hid (Below w.heap.size w w24) := B.out.trans (b.mono B.out.size)
    replace Z : Hid ((((((((((((((((((((((((((((w.heap.size ≤ w.heap.size) ∧ (w).heap.size + 1 ≤ V0.heap.size) ∧ (V0).heap.size ≤ w1.heap.size) ∧ (w1).heap.size ≤ w2.heap.size) ∧ (w2).heap.size ≤ w3.heap.size) ∧ (w3).heap.size ≤ w4.heap.size) ∧ (w4).heap.size + 1 ≤ V1.heap.size) ∧ (V1).heap.size ≤ w5.heap.size) ∧ (w5).heap.size + 1 ≤ V2.heap.size) ∧ (V2).heap.size ≤ w6.heap.size) ∧ (w6).heap.size ≤ w7.heap.size) ∧ (w7).heap.size + 1 ≤ V3.heap.size) ∧ (V3).heap.size ≤ w8.heap.size) ∧ (w8).heap.size ≤ w9.heap.size) ∧ (w9).heap.size ≤ w10.heap.size) ∧ (w10).heap.size ≤ w12.heap.size) ∧ (w12).heap.size ≤ w13.heap.size) ∧ (w13).heap.size ≤ w14.heap.size) ∧ w14.heap.size ≤ w15.heap.size) ∧ w15.heap.size ≤ w16.heap.size) ∧ (w16).heap.size ≤ w17.heap.size) ∧ (w17).heap.size ≤ w18.heap.size) ∧ (w18).heap.size ≤ w19.heap.size) ∧ w19.heap.size ≤ w20.heap.size) ∧ w20.heap.size ≤ w21.heap.size) ∧ w21.heap.size ≤ w22.heap.size) ∧ (w22).heap.size ≤ w23.heap.size) ∧ (w23).heap.size ≤ w24.heap.size) := ⟨Z.out, b.size⟩
    clear b
    have A9 := hid o
    clear o
    obtain ⟨q0_0, q0_1, q0_2⟩ := BA.out.three
    obtain ⟨q1_0, q1_1, q1_2⟩ := OWB0.out.three
    obtain ⟨q2_0, q2_1, q2_2⟩ := BX.out.three
    obtain ⟨q3_0, q3_1, q3_2⟩ := OGB0.out.three
    go_wp2_with fail
    refine (toSpanS_any _ D1 _ (HR1.out.below B.out) hN1).mono ?_
    rintro e w25 ⟨tw25, rfl, o, b⟩
    clear q0_0 q0_1 q0_2 q1_0 q1_1 q1_2 q2_0 q2_1 q2_2 q3_0 q3_1 q3_2
    replace OW0 := hid (OW0.out.below b)
    replace OW1 := hid (OW1.out.below b)
    replace OW2 := hid (OW2.out.below b)
    replace OG0 := hid (OG0.out.below b)
    replace OG1 := hid (OG1.out.below b)
    replace OG2 := hid (OG2.out.below b)
    replace A9 := hid (A9.out.below b)
    replace BA := hid (BA.out.below b BA.out.lt)
    replace OWB0 := hid (OWB0.out.below b OWB0.out.lt)
    replace BX := hid (BX.out.below b BX.out.lt)
    replace OGB0 := hid (OGB0.out.below b OGB0.out.lt)
    replace B : Hid (Below w.heap.size w w25) := B.out.trans (b.mono B.out.size)
    replace Z : Hid (((((((((((((((((((((((((((((w.heap.size ≤ w.heap.size) ∧ (w).heap.size + 1 ≤ V0.heap.size) ∧ (V0).heap.size ≤ w1.heap.size) ∧ (w1).heap.size ≤ w2.heap.size) ∧ (w2).heap.size ≤ w3.heap.size) ∧ (w3).heap.size ≤ w4.heap.size) ∧ (w4).heap.size + 1 ≤ V1.heap.size) ∧ (V1).heap.size ≤ w5.heap.size) ∧ (w5).heap.size + 1 ≤ V2.heap.size) ∧ (V2).heap.size ≤ w6.heap.size) ∧ (w6).heap.size ≤ w7.heap.size) ∧ (w7).heap.size + 1 ≤ V3.heap.size) ∧ (V3).heap.size ≤ w8.heap.size) ∧ (w8).heap.size ≤ w9.heap.size) ∧ (w9).heap.size ≤ w10.heap.size) ∧ (w10).heap.size ≤ w12.heap.size) ∧ (w12).heap.size ≤ w13.heap.size) ∧ (w13).heap.size ≤ w14.heap.size) ∧ w14.heap.size ≤ w15.heap.size) ∧ w15.heap.size ≤ w16.heap.size) ∧ (w16).heap.size ≤ w17.heap.size) ∧ (w17).heap.size ≤ w18.heap.size) ∧ (w18).heap.size ≤ w19.heap.size) ∧ w19.heap.size ≤ w20.heap.size) ∧ w20.heap.size ≤ w21.heap.size) ∧ w21.heap.size ≤ w22.heap.size) ∧ (w22).heap.size ≤ w23.heap.size) ∧ (w23).heap.size ≤ w24.heap.size) ∧ (w24).heap.size ≤ w25.heap.size) := ⟨Z.out, b.size⟩
    clear b
    have A9s := hid o
    clear o
    obtain ⟨q0_0, q0_1, q0_2⟩ := BA.out.three
    obtain ⟨q1_0, q1_1, q1_2⟩ := OWB0.out.three
    obtain ⟨q2_0, q2_1, q2_2⟩ := BX.out.three
    obtain ⟨q3_0, q3_1, q3_2⟩ := OGB0.out.three
    go_wp2_with fail
    refine (HI'.out tw24 tw25 _ A9.out.reads A9s.out.reads).mono ?_
    rintro e w26 ⟨ohu0, ohu1, ohu2, ohS0, ohS1, ohS2, rfl, o0, o1, o2, hdj, hin, b⟩
    clear q0_0 q0_1 q0_2 q1_0 q1_1 q1_2 q2_0 q2_1 q2_2 q3_0 q3_1 q3_2
    replace OW0 := hid (OW0.out.below b)
    replace OW1 := hid (OW1.out.below b)
    replace OW2 := hid (OW2.out.below b)
    replace OG0 := hid (OG0.out.below b)
    replace OG1 := hid (OG1.out.below b)
    replace OG2 := hid (OG2.out.below b)
    replace A9 := hid (A9.out.below b)
    replace A9s := hid (A9s.out.below b)
    replace BA := hid (BA.out.below b BA.out.lt)
    replace OWB0 := hid (OWB0.out.below b OWB0.out.lt)
    replace BX := hid (BX.out.below b BX.out.lt)
    replace OGB0 := hid (OGB0.out.below b OGB0.out.lt)
    replace B : Hid (Below w.heap.size w w26) := B.out.trans (b.mono B.out.size)
    replace Z : Hid ((((((((((((((((((((((((((((((w.heap.size ≤ w.heap.size) ∧ (w).heap.size + 1 ≤ V0.heap.size) ∧ (V0).heap.size ≤ w1.heap.size) ∧ (w1).heap.size ≤ w2.heap.size) ∧ (w2).heap.size ≤ w3.heap.size) ∧ (w3).heap.size ≤ w4.heap.size) ∧ (w4).heap.size + 1 ≤ V1.heap.size) ∧ (V1).heap.size ≤ w5.heap.size) ∧ (w5).heap.size + 1 ≤ V2.heap.size) ∧ (V2).heap.size ≤ w6.heap.size) ∧ (w6).heap.size ≤ w7.heap.size) ∧ (w7).heap.size + 1 ≤ V3.heap.size) ∧ (V3).heap.size ≤ w8.heap.size) ∧ (w8).heap.size ≤ w9.heap.size) ∧ (w9).heap.size ≤ w10.heap.size) ∧ (w10).heap.size ≤ w12.heap.size) ∧ (w12).heap.size ≤ w13.heap.size) ∧ (w13).heap.size ≤ w14.heap.size) ∧ w14.heap.size ≤ w15.heap.size) ∧ w15.heap.size ≤ w16.heap.size) ∧ (w16).heap.size ≤ w17.heap.size) ∧ (w17).heap.size ≤ w18.heap.size) ∧ (w18).heap.size ≤ w19.heap.size) ∧ w19.heap.size ≤ w20.heap.size) ∧ w20.heap.size ≤ w21.heap.size) ∧ w21.heap.size ≤ w22.heap.size) ∧ (w22).heap.size ≤ w23.heap.size) ∧ (w23).heap.size ≤ w24.heap.size) ∧ (w24).heap.size ≤ w25.heap.size) ∧ (w25).heap.size ≤ w26.heap.size) := ⟨Z.out, b.size⟩
    clear b
    clear A9
    clear A9s
    obtain ⟨ohc0_a1, ohc0_n1, ohc0_k1, ohc0_a2, ohc0_n2, ohc0_k2, rfl⟩ := o0.form
    have OH0 := hid o0
    have OH0I : Hid (∀ g, ohS0 g → w25.heap.size ≤ g ∧ g < w26.heap.size) := fun g h => hin g (.inl h)
    have OH1 := hid o1
    have OH1I : Hid (∀ g, ohS1 g → w25.heap.size ≤ g ∧ g < w26.heap.size) := fun g h => hin g (.inr (.inl h))
    have OH2 := hid o2
    have OH2I : Hid (∀ g, ohS2 g → w25.heap.size ≤ g ∧ g < w26.heap.size) := fun g h => hin g (.inr (.inr h))
    have OHDJ := hid hdj
    clear hdj hin
    clear o0 o1 o2
    have b : Below (w26).heap.size (w26) (w26.alloc (.cells #[.int .i64 R0.f0, .slice ohc0_a1 ohc0_n1 ohc0_k1, .slice ohc0_a2 ohc0_n2 ohc0_k2] 34)) := (Below.refl _ _).alloc (Nat.le_refl _) _
    replace OW0 := hid (OW0.out.below b)
    replace OW1 := hid (OW1.out.below b)
    replace OW2 := hid (OW2.out.below b)
    replace OG0 := hid (OG0.out.below b)
    replace OG1 := hid (OG1.out.below b)
    replace OG2 := hid (OG2.out.below b)
    replace OH0 := hid (OH0.out.below b)
    replace OH1 := hid (OH1.out.below b)
    replace OH2 := hid (OH2.out.below b)
    replace BA := hid (BA.out.below b BA.out.lt)
    replace OWB0 := hid (OWB0.out.below b OWB0.out.lt)
    replace BX := hid (BX.out.below b BX.out.lt)
    replace OGB0 := hid (OGB0.out.below b OGB0.out.lt)
    have OHB0 := hid (boxL_new (w26) [.int .i64 R0.f0, .slice ohc0_a1 ohc0_n1 ohc0_k1, .slice ohc0_a2 ohc0_n2 ohc0_k2] 34)
    replace B : Hid (Below w.heap.size w (w26.alloc (.cells #[.int .i64 R0.f0, .slice ohc0_a1 ohc0_n1 ohc0_k1, .slice ohc0_a2 ohc0_n2 ohc0_k2] 34))) := B.out.trans (b.mono B.out.size)
    replace Z : Hid (((((((((((((((((((((((((((((((w.heap.size ≤ w.heap.size) ∧ (w).heap.size + 1 ≤ V0.heap.size) ∧ (V0).heap.size ≤ w1.heap.size) ∧ (w1).heap.size ≤ w2.heap.size) ∧ (w2).heap.size ≤ w3.heap.size) ∧ (w3).heap.size ≤ w4.heap.size) ∧ (w4).heap.size + 1 ≤ V1.heap.size) ∧ (V1).heap.size ≤ w5.heap.size) ∧ (w5).heap.size + 1 ≤ V2.heap.size) ∧ (V2).heap.size ≤ w6.heap.size) ∧ (w6).heap.size ≤ w7.heap.size) ∧ (w7).heap.size + 1 ≤ V3.heap.size) ∧ (V3).heap.size ≤ w8.heap.size) ∧ (w8).heap.size ≤ w9.heap.size) ∧ (w9).heap.size ≤ w10.heap.size) ∧ (w10).heap.size ≤ w12.heap.size) ∧ (w12).heap.size ≤ w13.heap.size) ∧ (w13).heap.size ≤ w14.heap.size) ∧ w14.heap.size ≤ w15.heap.size) ∧ w15.heap.size ≤ w16.heap.size) ∧ (w16).heap.size ≤ w17.heap.size) ∧ (w17).heap.size ≤ w18.heap.size) ∧ (w18).heap.size ≤ w19.heap.size) ∧ w19.heap.size ≤ w20.heap.size) ∧ w20.heap.size ≤ w21.heap.size) ∧ w21.heap.size ≤ w22.heap.size) ∧ (w22).heap.size ≤ w23.heap.size) ∧ (w23).heap.size ≤ w24.heap.size) ∧ (w24).heap.size ≤ w25.heap.size) ∧ (w25).heap.size ≤ w26.heap.size) ∧ (w26).heap.size + 1 ≤ (w26.alloc (.cells #[.int .i64 R0.f0, .slice ohc0_a1 ohc0_n1 ohc0_k1, .slice ohc0_a2 ohc0_n2 ohc0_k2] 34)).heap.size) := ⟨Z.out, by rw [World.size_alloc]; exact Nat.le_refl _⟩
    clear b
    obtain ⟨q0_0, q0_1, q0_2⟩ := BA.out.three
    obtain ⟨q1_0, q1_1, q1_2⟩ := OWB0.out.three
    obtain ⟨q2_0, q2_1, q2_2⟩ := BX.out.three
    obtain ⟨q3_0, q3_1, q3_2⟩ := OGB0.out.three
    obtain ⟨q4_0, q4_1, q4_2⟩ := OHB0.out.three
    go_wp2_with fail
    obtain ⟨V4, hV⟩ : ∃ V, V = w26.alloc (.cells #[.int .i64 R0.f0, .slice ohc0_a1 ohc0_n1 ohc0_k1, .slice ohc0_a2 ohc0_n2 ohc0_k2] 34) := ⟨_, rfl⟩
    rw [← hV] at B Z OW0 OW1 OW2 OG0 OG1 OG2 OH0 OH1 OH2 BA OWB0 BX OGB0 OHB0 ⊢
    clear hV
    refine (eqSender_same _ _ R0 _ OH0.out.reads OW0.out.reads).mono ?_
    rintro e w27 ⟨rfl, b⟩
    clear q0_0 q0_1 q0_2 q1_0 q1_1 q1_2 q2_0 q2_1 q2_2 q3_0 q3_1 q3_2 q4_0 q4_1 q4_2
    replace OW0 := hid (OW0.out.below b)
    replace OW1 := hid (OW1.out.below b)
    replace OW2 := hid (OW2.out.below b)
    replace OG0 := hid (OG0.out.below b)
    replace OG1 := hid (OG1.out.below b)
    replace OG2 := hid (OG2.out.below b)
    replace OH0 := hid (OH0.out.below b)
    replace OH1 := hid (OH1.out.below b)
    replace OH2 := hid (OH2.out.below b)
    replace BA := hid (BA.out.below b BA.out.lt)
    replace OWB0 := hid (OWB0.out.below b OWB0.out.lt)
    replace BX := hid (BX.out.below b BX.out.lt)
    replace OGB0 := hid (OGB0.out.below b OGB0.out.lt)
    replace OHB0 := hid (OHB0.out.below b OHB0.out.lt)
    replace B : Hid (Below w.heap.size w w27) := B.out.trans (b.mono B.out.size)
    replace Z : Hid ((((((((((((((((((((((((((((((((w.heap.size ≤ w.heap.size) ∧ (w).heap.size + 1 ≤ V0.heap.size) ∧ (V0).heap.size ≤ w1.heap.size) ∧ (w1).heap.size ≤ w2.heap.size) ∧ (w2).heap.size ≤ w3.heap.size) ∧ (w3).heap.size ≤ w4.heap.size) ∧ (w4).heap.size + 1 ≤ V1.heap.size) ∧ (V1).heap.size ≤ w5.heap.size) ∧ (w5).heap.size + 1 ≤ V2.heap.size) ∧ (V2).heap.size ≤ w6.heap.size) ∧ (w6).heap.size ≤ w7.heap.size) ∧ (w7).heap.size + 1 ≤ V3.heap.size) ∧ (V3).heap.size ≤ w8.heap.size) ∧ (w8).heap.size ≤ w9.heap.size) ∧ (w9).heap.size ≤ w10.heap.size) ∧ (w10).heap.size ≤ w12.heap.size) ∧ (w12).heap.size ≤ w13.heap.size) ∧ (w13).heap.size ≤ w14.heap.size) ∧ w14.heap.size ≤ w15.heap.size) ∧ w15.heap.size ≤ w16.heap.size) ∧ (w16).heap.size ≤ w17.heap.size) ∧ (w17).heap.size ≤ w18.heap.size) ∧ (w18).heap.size ≤ w19.heap.size) ∧ w19.heap.size ≤ w20.heap.size) ∧ w20.heap.size ≤ w21.heap.size) ∧ w21.heap.size ≤ w22.heap.size) ∧ (w22).heap.size ≤ w23.heap.size) ∧ (w23).heap.size ≤ w24.heap.size) ∧ (w24).heap.size ≤ w25.heap.size) ∧ (w25).heap.size ≤ w26.heap.size) ∧ (w26).heap.size + 1 ≤ V4.heap.size) ∧ (V4).heap.size ≤ w27.heap.size) := ⟨Z.out, b.size⟩
    clear b
    obtain ⟨q0_0, q0_1, q0_2⟩ := BA.out.three
    obtain ⟨q1_0, q1_1, q1_2⟩ := OWB0.out.three
    obtain ⟨q2_0, q2_1, q2_2⟩ := BX.out.three
    obtain ⟨q3_0, q3_1, q3_2⟩ := OGB0.out.three
    obtain ⟨q4_0, q4_1, q4_2⟩ := OHB0.out.three
    go_wp2_with fail
    refine (keqIntS_same _ _ R1 _ OH1.out.reads OW1.out.reads).mono ?_
    rintro e w28 ⟨rfl, b⟩
    clear q0_0 q0_1 q0_2 q1_0 q1_1 q1_2 q2_0 q2_1 q2_2 q3_0 q3_1 q3_2 q4_0 q4_1 q4_2
    replace OW0 := hid (OW0.out.below b)
    replace OW1 := hid (OW1.out.below b)
    replace OW2 := hid (OW2.out.below b)
    replace OG0 := hid (OG0.out.below b)
    replace OG1 := hid (OG1.out.below b)
    replace OG2 := hid (OG2.out.below b)
    replace OH0 := hid (OH0.out.below b)
    replace OH1 := hid (OH1.out.below b)
    replace OH2 := hid (OH2.out.below b)
    replace BA := hid (BA.out.below b BA.out.lt)
    replace OWB0 := hid (OWB0.out.below b OWB0.out.lt)
    replace BX := hid (BX.out.below b BX.out.lt)
    replace OGB0 := hid (OGB0.out.below b OGB0.out.lt)
    replace OHB0 := hid (OHB0.out.below b OHB0.out.lt)
    replace B : Hid (Below w.heap.size w w28) := B.out.trans (b.mono B.out.size)
    replace Z : Hid (((((((((((((((((((((((((((((((((w.heap.size ≤ w.heap.size) ∧ (w).heap.size + 1 ≤ V0.heap.size) ∧ (V0).heap.size ≤ w1.heap.size) ∧ (w1).heap.size ≤ w2.heap.size) ∧ (w2).heap.size ≤ w3.heap.size) ∧ (w3).heap.size ≤ w4.heap.size) ∧ (w4).heap.size + 1 ≤ V1.heap.size) ∧ (V1).heap.size ≤ w5.heap.size) ∧ (w5).heap.size + 1 ≤ V2.heap.size) ∧ (V2).heap.size ≤ w6.heap.size) ∧ (w6).heap.size ≤ w7.heap.size) ∧ (w7).heap.size + 1 ≤ V3.heap.size) ∧ (V3).heap.size ≤ w8.heap.size) ∧ (w8).heap.size ≤ w9.heap.size) ∧ (w9).heap.size ≤ w10.heap.size) ∧ (w10).heap.size ≤ w12.heap.size) ∧ (w12).heap.size ≤ w13.heap.size) ∧ (w13).heap.size ≤ w14.heap.size) ∧ w14.heap.size ≤ w15.heap.size) ∧ w15.heap.size ≤ w16.heap.size) ∧ (w16).heap.size ≤ w17.heap.size) ∧ (w17).heap.size ≤ w18.heap.size) ∧ (w18).heap.size ≤ w19.heap.size) ∧ w19.heap.size ≤ w20.heap.size) ∧ w20.heap.size ≤ w21.heap.size) ∧ w21.heap.size ≤ w22.heap.size) ∧ (w22).heap.size ≤ w23.heap.size) ∧ (w23).heap.size ≤ w24.heap.size) ∧ (w24).heap.size ≤ w25.heap.size) ∧ (w25).heap.size ≤ w26.heap.size) ∧ (w26).heap.size + 1 ≤ V4.heap.size) ∧ (V4).heap.size ≤ w27.heap.size) ∧ (w27).heap.size ≤ w28.heap.size) := ⟨Z.out, b.size⟩
    clear b
    obtain ⟨q0_0, q0_1, q0_2⟩ := BA.out.three
    obtain ⟨q1_0, q1_1, q1_2⟩ := OWB0.out.three
    obtain ⟨q2_0, q2_1, q2_2⟩ := BX.out.three
    obtain ⟨q3_0, q3_1, q3_2⟩ := OGB0.out.three
    obtain ⟨q4_0, q4_1, q4_2⟩ := OHB0.out.three
    go_wp2_with fail
    refine (keqIntS_same _ _ R2 _ OH2.out.reads OW2.out.reads).mono ?_
    rintro e w29 ⟨rfl, b⟩
    clear q0_0 q0_1 q0_2 q1_0 q1_1 q1_2 q2_0 q2_1 q2_2 q3_0 q3_1 q3_2 q4_0 q4_1 q4_2
    replace OW0 := hid (OW0.out.below b)
    replace OW1 := hid (OW1.out.below b)
    replace OW2 := hid (OW2.out.below b)
    replace OG0 := hid (OG0.out.below b)
    replace OG1 := hid (OG1.out.below b)
    replace OG2 := hid (OG2.out.below b)
    replace OH0 := hid (OH0.out.below b)
    replace OH1 := hid (OH1.out.below b)
    replace OH2 := hid (OH2.out.below b)
    replace BA := hid (BA.out.below b BA.out.lt)
    replace OWB0 := hid (OWB0.out.below b OWB0.out.lt)
    replace BX := hid (BX.out.below b BX.out.lt)
    replace OGB0 := hid (OGB0.out.below b OGB0.out.lt)
    replace OHB0 := hid (OHB0.out.below b OHB0.out.lt)
    replace B : Hid (Below w.heap.size w w29) := B.out.trans (b.mono B.out.size)
    replace Z : Hid ((((((((((((((((((((((((((((((((((w.heap.size ≤ w.heap.size) ∧ (w).heap.size + 1 ≤ V0.heap.size) ∧ (V0).heap.size ≤ w1.heap.size) ∧ (w1).heap.size ≤ w2.heap.size) ∧ (w2).heap.size ≤ w3.heap.size) ∧ (w3).heap.size ≤ w4.heap.size) ∧ (w4).heap.size + 1 ≤ V1.heap.size) ∧ (V1).heap.size ≤ w5.heap.size) ∧ (w5).heap.size + 1 ≤ V2.heap.size) ∧ (V2).heap.size ≤ w6.heap.size) ∧ (w6).heap.size ≤ w7.heap.size) ∧ (w7).heap.size + 1 ≤ V3.heap.size) ∧ (V3).heap.size ≤ w8.heap.size) ∧ (w8).heap.size ≤ w9.heap.size) ∧ (w9).heap.size ≤ w10.heap.size) ∧ (w10).heap.size ≤ w12.heap.size) ∧ (w12).heap.size ≤ w13.heap.size) ∧ (w13).heap.size ≤ w14.heap.size) ∧ w14.heap.size ≤ w15.heap.size) ∧ w15.heap.size ≤ w16.heap.size) ∧ (w16).heap.size ≤ w17.heap.size) ∧ (w17).heap.size ≤ w18.heap.size) ∧ (w18).heap.size ≤ w19.heap.size) ∧ w19.heap.size ≤ w20.heap.size) ∧ w20.heap.size ≤ w21.heap.size) ∧ w21.heap.size ≤ w22.heap.size) ∧ (w22).heap.size ≤ w23.heap.size) ∧ (w23).heap.size ≤ w24.heap.size) ∧ (w24).heap.size ≤ w25.heap.size) ∧ (w25).heap.size ≤ w26.heap.size) ∧ (w26).heap.size + 1 ≤ V4.heap.size) ∧ (V4).heap.size ≤ w27.heap.size) ∧ (w27).heap.size ≤ w28.heap.size) ∧ (w28).heap.size ≤ w29.heap.size) := ⟨Z.out, b.size⟩
    clear b
    obtain ⟨q0_0, q0_1, q0_2⟩ := BA.out.three
    obtain ⟨q1_0, q1_1, q1_2⟩ := OWB0.out.three
    obtain ⟨q2_0, q2_1, q2_2⟩ := BX.out.three
    obtain ⟨q3_0, q3_1, q3_2⟩ := OGB0.out.three
    obtain ⟨q4_0, q4_1, q4_2⟩ := OHB0.out.three
    go_wp2_with fail
    refine (heldSender_any _ R0 1 m0 _ OG0.out.reads hYN0 (by omega) (by omega) HM_m0.out).mono ?_
    rintro e w30 ⟨rfl, b⟩
    clear q0_0 q0_1 q0_2 q1_0 q1_1 q1_2 q2_0 q2_1 q2_2 q3_0 q3_1 q3_2 q4_0 q4_1 q4_2
    replace OW0 := hid (OW0.out.below b)
    replace OW1 := hid (OW1.out.below b)
    replace OW2 := hid (OW2.out.below b)
    replace OG0 := hid (OG0.out.below b)
    replace OG1 := hid (OG1.out.below b)
    replace OG2 := hid (OG2.out.below b)
    replace OH0 := hid (OH0.out.below b)
    replace OH1 := hid (OH1.out.below b)
    replace OH2 := hid (OH2.out.below b)
    replace BA := hid (BA.out.below b BA.out.lt)
    replace OWB0 := hid (OWB0.out.below b OWB0.out.lt)
    replace BX := hid (BX.out.below b BX.out.lt)
    replace OGB0 := hid (OGB0.out.below b OGB0.out.lt)
    replace OHB0 := hid (OHB0.out.below b OHB0.out.lt)
    replace B : Hid (Below w.heap.size w w30) := B.out.trans (b.mono B.out.size)
    replace Z : Hid (((((((((((((((((((((((((((((((((((w.heap.size ≤ w.heap.size) ∧ (w).heap.size + 1 ≤ V0.heap.size) ∧ (V0).heap.size ≤ w1.heap.size) ∧ (w1).heap.size ≤ w2.heap.size) ∧ (w2).heap.size ≤ w3.heap.size) ∧ (w3).heap.size ≤ w4.heap.size) ∧ (w4).heap.size + 1 ≤ V1.heap.size) ∧ (V1).heap.size ≤ w5.heap.size) ∧ (w5).heap.size + 1 ≤ V2.heap.size) ∧ (V2).heap.size ≤ w6.heap.size) ∧ (w6).heap.size ≤ w7.heap.size) ∧ (w7).heap.size + 1 ≤ V3.heap.size) ∧ (V3).heap.size ≤ w8.heap.size) ∧ (w8).heap.size ≤ w9.heap.size) ∧ (w9).heap.size ≤ w10.heap.size) ∧ (w10).heap.size ≤ w12.heap.size) ∧ (w12).heap.size ≤ w13.heap.size) ∧ (w13).heap.size ≤ w14.heap.size) ∧ w14.heap.size ≤ w15.heap.size) ∧ w15.heap.size ≤ w16.heap.size) ∧ (w16).heap.size ≤ w17.heap.size) ∧ (w17).heap.size ≤ w18.heap.size) ∧ (w18).heap.size ≤ w19.heap.size) ∧ w19.heap.size ≤ w20.heap.size) ∧ w20.heap.size ≤ w21.heap.size) ∧ w21.heap.size ≤ w22.heap.size) ∧ (w22).heap.size ≤ w23.heap.size) ∧ (w23).heap.size ≤ w24.heap.size) ∧ (w24).heap.size ≤ w25.heap.size) ∧ (w25).heap.size ≤ w26.heap.size) ∧ (w26).heap.size + 1 ≤ V4.heap.size) ∧ (V4).heap.size ≤ w27.heap.size) ∧ (w27).heap.size ≤ w28.heap.size) ∧ (w28).heap.size ≤ w29.heap.size) ∧ (w29).heap.size ≤ w30.heap.size) := ⟨Z.out, b.size⟩
    clear b
    obtain ⟨q0_0, q0_1, q0_2⟩ := BA.out.three
    obtain ⟨q1_0, q1_1, q1_2⟩ := OWB0.out.three
    obtain ⟨q2_0, q2_1, q2_2⟩ := BX.out.three
    obtain ⟨q3_0, q3_1, q3_2⟩ := OGB0.out.three
    obtain ⟨q4_0, q4_1, q4_2⟩ := OHB0.out.three
    go_wp2_with fail
    refine (kheldIntS_any _ R1.length m0 m1 _ OG1.out.reads hy1 (by omega) (by omega) HM_m1.out).mono ?_
    rintro e w' ⟨rfl, hw⟩; obtain rfl := hw.symm
    clear q0_0 q0_1 q0_2 q1_0 q1_1 q1_2 q2_0 q2_1 q2_2 q3_0 q3_1 q3_2 q4_0 q4_1 q4_2
    obtain ⟨q0_0, q0_1, q0_2⟩ := BA.out.three
    obtain ⟨q1_0, q1_1, q1_2⟩ := OWB0.out.three
    obtain ⟨q2_0, q2_1, q2_2⟩ := BX.out.three
    obtain ⟨q3_0, q3_1, q3_2⟩ := OGB0.out.three
    obtain ⟨q4_0, q4_1, q4_2⟩ := OHB0.out.three
    go_wp2_with fail
    refine (kheldIntS_any _ R2.length m1 m2 _ OG2.out.reads hy2 (by omega) (by omega) HM_m2.out).mono ?_
    rintro e w' ⟨rfl, hw⟩; obtain rfl := hw.symm
    clear q0_0 q0_1 q0_2 q1_0 q1_1 q1_2 q2_0 q2_1 q2_2 q3_0 q3_1 q3_2 q4_0 q4_1 q4_2
    go_wp2
    go_ret
    exact ⟨rfl, B.out⟩
end Go.Proofs.Ythmkeinhjlmgmah
