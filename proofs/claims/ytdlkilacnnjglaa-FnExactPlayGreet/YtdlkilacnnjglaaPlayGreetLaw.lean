/-
  The law FnExactPlayGreet answers true at every argument, where both sides tell alike.
-/
import Derived.Test.YtdlkilacnnjglaaBoOwnS
import Derived.Test.YtdlkilacnnjglaaKBoolRows
import Derived.Test.YtdlkilacnnjglaaKHelloE1
import Derived.Test.YtdlkilacnnjglaaKHelloMark
import Derived.Test.YtdlkilacnnjglaaKGreetStepArg
import Derived.Test.YtdlkilacnnjglaaKGreetStepTo
import Derived.Test.YtdlkilacnnjglaaKGreetStepRows
import Derived.Test.YtdlkilacnnjglaaQForm
import Derived.Test.YtdlkilacnnjglaaInts
import Derived.Deep.RegionWith
namespace Go.Proofs.Ytdlkilacnnjglaa
open Go.RowKit

set_option maxRecDepth 100000 in
set_option maxHeartbeats 16000000 in
theorem FnExactPlayGreet_law (a0 : Option Addr) (len0 cap0 : Nat) (D0 : List GsEl) (w : World) (h0 : GsArg w a0 len0 cap0 D0) (R0 : GrD) (hy0 : grTot R0 ≤ 1048576) (R1 : List Bool) (hy1 : R1.length ≤ 1048576) (r2 : Bool)
    (HS : ∀ (v : Value) (w : World), GsReads w v D0 → Calls Try.prog 26 #[v] w fun e w' => ∃ u0 u1 S0 S1, e = .returned (.tuple #[u0, u1, .bool r2]) ∧ GrOwn S0 w' u0 R0 ∧ BoOwnS S1 w' u1 R1 ∧ (∀ g, S0 g → S1 g → False) ∧ (∀ g, S0 g ∨ S1 g → w.heap.size ≤ g ∧ g < w'.heap.size) ∧ Below w.heap.size w w')
    (HI : ∀ (v : Value) (w : World), GsReads w v D0 → Calls Try.prog 28 #[v] w fun e w' => ∃ u0 u1 S0 S1, e = .returned (.tuple #[u0, u1, .bool r2]) ∧ GrOwn S0 w' u0 R0 ∧ BoOwnS S1 w' u1 R1 ∧ (∀ g, S0 g → S1 g → False) ∧ (∀ g, S0 g ∨ S1 g → w.heap.size ≤ g ∧ g < w'.heap.size) ∧ Below w.heap.size w w') :
    Calls Try.prog 7 #[.slice a0 len0 cap0] w fun e w' => e = .returned (.bool true) ∧ Below w.heap.size w w' := by
  have HS' := hid HS
  have HI' := hid HI
  clear HS HI
  by_cases hl0 : (len0 : Int) ≤ 1048576
  rotate_left
  · have hm : len0 ≤ maxLen := Nat.le_trans h0.2.1 h0.2.2.1
    clear HS' HI' h0
    go_enter Try.func7, Try.ntmps7
    go_wp2_with fail
    refine (szGreetStepS_over 1048576 a0 len0 cap0 _ (by omega) (by omega) (by omega) hm).mono ?_
    rintro e w' ⟨rfl, hw⟩; obtain rfl := hw.symm
    go_wp2
    go_ret
    exact ⟨rfl, Below.refl _ _⟩
  have hneg : decide (1048576 - (len0 : Int) < 0) = false := by rw [decide_eq_false_iff_not]; omega
  have HR := hid (h0.reads (by omega))
  have hN0 : D0.length ≤ 1048576 := by rw [h0.1]; omega
  clear h0
  have B : Hid (Below w.heap.size w w) := Below.refl _ _
  have Z : Hid (w.heap.size ≤ w.heap.size) := Nat.le_refl _
  go_enter Try.func7, Try.ntmps7
  go_wp2_with fail
  refine (szGreetStepS_at 1048576 a0 len0 cap0 _ (by omega) (by omega) hl0).mono ?_
  rintro e w' ⟨rfl, hw⟩; obtain rfl := hw.symm
  have hYN0 : grTot R0 ≤ 1048576 := hy0
  have hYNN0 : grN R0 ≤ 4194304 := by unfold grTot at hy0; unfold grN; omega
  clear hy0
  go_wp2_with fail
  refine (toGreetStepS_any _ D0 _ (HR.out.below B.out) hN0).mono ?_
  rintro e w1 ⟨tw1, rfl, o, b⟩
  replace B : Hid (Below w.heap.size w w1) := B.out.trans (b.mono B.out.size)
  replace Z : Hid ((w.heap.size ≤ w.heap.size) ∧ (w).heap.size ≤ w1.heap.size) := ⟨Z.out, b.size⟩
  clear b
  have A0 := hid o
  clear o
  go_wp2_with fail
  refine (HS'.out tw1 _ A0.out.reads).mono ?_
  rintro e w2 ⟨owu0, owu1, owS0, owS1, rfl, o0, o1, hdj, hin, b⟩
  replace A0 := hid (A0.out.below b)
  replace B : Hid (Below w.heap.size w w2) := B.out.trans (b.mono B.out.size)
  replace Z : Hid (((w.heap.size ≤ w.heap.size) ∧ (w).heap.size ≤ w1.heap.size) ∧ (w1).heap.size ≤ w2.heap.size) := ⟨Z.out, b.size⟩
  clear b
  clear A0
  obtain ⟨owc0_a8, owc0_n8, owc0_k8, owc0_a9, owc0_n9, owc0_k9, owc0_a10, owc0_n10, owc0_k10, rfl⟩ := o0.form
  have OW0 := hid o0
  have OW0I : Hid (∀ g, owS0 g → w1.heap.size ≤ g ∧ g < w2.heap.size) := fun g h => hin g (.inl h)
  have OW1 := hid o1
  have OW1I : Hid (∀ g, owS1 g → w1.heap.size ≤ g ∧ g < w2.heap.size) := fun g h => hin g (.inr h)
  have OWDJ := hid hdj
  clear hdj hin
  clear o0 o1
  have b : Below (w2).heap.size (w2) (w2.alloc (.cells #[.int .i64 R0.f0, .int .i64 R0.f1, .int .i64 R0.f2, .int .i64 R0.f3, .int .i64 R0.f4, .int .i64 R0.f5, .int .i64 R0.f6, .int .i64 R0.f7, .slice owc0_a8 owc0_n8 owc0_k8, .slice owc0_a9 owc0_n9 owc0_k9, .slice owc0_a10 owc0_n10 owc0_k10] 49)) := (Below.refl _ _).alloc (Nat.le_refl _) _
  replace OW0 := hid (OW0.out.below b)
  replace OW1 := hid (OW1.out.below b)
  have OWB0 := hid (boxL_new (w2) [.int .i64 R0.f0, .int .i64 R0.f1, .int .i64 R0.f2, .int .i64 R0.f3, .int .i64 R0.f4, .int .i64 R0.f5, .int .i64 R0.f6, .int .i64 R0.f7, .slice owc0_a8 owc0_n8 owc0_k8, .slice owc0_a9 owc0_n9 owc0_k9, .slice owc0_a10 owc0_n10 owc0_k10] 49)
  replace B : Hid (Below w.heap.size w (w2.alloc (.cells #[.int .i64 R0.f0, .int .i64 R0.f1, .int .i64 R0.f2, .int .i64 R0.f3, .int .i64 R0.f4, .int .i64 R0.f5, .int .i64 R0.f6, .int .i64 R0.f7, .slice owc0_a8 owc0_n8 owc0_k8, .slice owc0_a9 owc0_n9 owc0_k9, .slice owc0_a10 owc0_n10 owc0_k10] 49))) := B.out.trans (b.mono B.out.size)
  replace Z : Hid ((((w.heap.size ≤ w.heap.size) ∧ (w).heap.size ≤ w1.heap.size) ∧ (w1).heap.size ≤ w2.heap.size) ∧ (w2).heap.size + 1 ≤ (w2.alloc (.cells #[.int .i64 R0.f0, .int .i64 R0.f1, .int .i64 R0.f2, .int .i64 R0.f3, .int .i64 R0.f4, .int .i64 R0.f5, .int .i64 R0.f6, .int .i64 R0.f7, .slice owc0_a8 owc0_n8 owc0_k8, .slice owc0_a9 owc0_n9 owc0_k9, .slice owc0_a10 owc0_n10 owc0_k10] 49)).heap.size) := ⟨Z.out, by rw [World.size_alloc]; exact Nat.le_refl _⟩
  clear b
  obtain ⟨q0_0, q0_1, q0_2, q0_3, q0_4, q0_5, q0_6, q0_7, q0_8, q0_9, q0_10⟩ := OWB0.out.eleven
  go_wp2_with fail
  obtain ⟨V0, hV⟩ : ∃ V, V = w2.alloc (.cells #[.int .i64 R0.f0, .int .i64 R0.f1, .int .i64 R0.f2, .int .i64 R0.f3, .int .i64 R0.f4, .int .i64 R0.f5, .int .i64 R0.f6, .int .i64 R0.f7, .slice owc0_a8 owc0_n8 owc0_k8, .slice owc0_a9 owc0_n9 owc0_k9, .slice owc0_a10 owc0_n10 owc0_k10] 49) := ⟨_, rfl⟩
  rw [← hV] at B Z OW0 OW1 OWB0 ⊢
  clear hV
  refine (toGreetStepS_any _ D0 _ (HR.out.below B.out) hN0).mono ?_
  rintro e w3 ⟨tw3, rfl, o, b⟩
  clear q0_0 q0_1 q0_2 q0_3 q0_4 q0_5 q0_6 q0_7 q0_8 q0_9 q0_10
  replace OW0 := hid (OW0.out.below b)
  replace OW1 := hid (OW1.out.below b)
  replace OWB0 := hid (OWB0.out.below b OWB0.out.lt)
  replace B : Hid (Below w.heap.size w w3) := B.out.trans (b.mono B.out.size)
  replace Z : Hid (((((w.heap.size ≤ w.heap.size) ∧ (w).heap.size ≤ w1.heap.size) ∧ (w1).heap.size ≤ w2.heap.size) ∧ (w2).heap.size + 1 ≤ V0.heap.size) ∧ (V0).heap.size ≤ w3.heap.size) := ⟨Z.out, b.size⟩
  clear b
  have X0 := hid o
  clear o
  obtain ⟨q0_0, q0_1, q0_2, q0_3, q0_4, q0_5, q0_6, q0_7, q0_8, q0_9, q0_10⟩ := OWB0.out.eleven
  go_wp2_with fail
  refine (HI'.out _ _ X0.out.reads).mono ?_
  rintro e w4 ⟨ogu0, ogu1, ogS0, ogS1, rfl, o0, o1, hdj, hin, b⟩
  clear q0_0 q0_1 q0_2 q0_3 q0_4 q0_5 q0_6 q0_7 q0_8 q0_9 q0_10
  replace OW0 := hid (OW0.out.below b)
  replace OW1 := hid (OW1.out.below b)
  replace X0 := hid (X0.out.below b)
  replace OWB0 := hid (OWB0.out.below b OWB0.out.lt)
  replace B : Hid (Below w.heap.size w w4) := B.out.trans (b.mono B.out.size)
  replace Z : Hid ((((((w.heap.size ≤ w.heap.size) ∧ (w).heap.size ≤ w1.heap.size) ∧ (w1).heap.size ≤ w2.heap.size) ∧ (w2).heap.size + 1 ≤ V0.heap.size) ∧ (V0).heap.size ≤ w3.heap.size) ∧ (w3).heap.size ≤ w4.heap.size) := ⟨Z.out, b.size⟩
  clear b
  obtain ⟨ogc0_a8, ogc0_n8, ogc0_k8, ogc0_a9, ogc0_n9, ogc0_k9, ogc0_a10, ogc0_n10, ogc0_k10, rfl⟩ := o0.form
  have OG0 := hid o0
  have OG0I : Hid (∀ g, ogS0 g → w3.heap.size ≤ g ∧ g < w4.heap.size) := fun g h => hin g (.inl h)
  have OG1 := hid o1
  have OG1I : Hid (∀ g, ogS1 g → w3.heap.size ≤ g ∧ g < w4.heap.size) := fun g h => hin g (.inr h)
  have OGDJ := hid hdj
  clear hdj hin
  clear o0 o1
  have b : Below (w4).heap.size (w4) (w4.alloc (.cells #[.int .i64 R0.f0, .int .i64 R0.f1, .int .i64 R0.f2, .int .i64 R0.f3, .int .i64 R0.f4, .int .i64 R0.f5, .int .i64 R0.f6, .int .i64 R0.f7, .slice ogc0_a8 ogc0_n8 ogc0_k8, .slice ogc0_a9 ogc0_n9 ogc0_k9, .slice ogc0_a10 ogc0_n10 ogc0_k10] 49)) := (Below.refl _ _).alloc (Nat.le_refl _) _
  replace OW0 := hid (OW0.out.below b)
  replace OW1 := hid (OW1.out.below b)
  replace X0 := hid (X0.out.below b)
  replace OG0 := hid (OG0.out.below b)
  replace OG1 := hid (OG1.out.below b)
  replace OWB0 := hid (OWB0.out.below b OWB0.out.lt)
  have OGB0 := hid (boxL_new (w4) [.int .i64 R0.f0, .int .i64 R0.f1, .int .i64 R0.f2, .int .i64 R0.f3, .int .i64 R0.f4, .int .i64 R0.f5, .int .i64 R0.f6, .int .i64 R0.f7, .slice ogc0_a8 ogc0_n8 ogc0_k8, .slice ogc0_a9 ogc0_n9 ogc0_k9, .slice ogc0_a10 ogc0_n10 ogc0_k10] 49)
  replace B : Hid (Below w.heap.size w (w4.alloc (.cells #[.int .i64 R0.f0, .int .i64 R0.f1, .int .i64 R0.f2, .int .i64 R0.f3, .int .i64 R0.f4, .int .i64 R0.f5, .int .i64 R0.f6, .int .i64 R0.f7, .slice ogc0_a8 ogc0_n8 ogc0_k8, .slice ogc0_a9 ogc0_n9 ogc0_k9, .slice ogc0_a10 ogc0_n10 ogc0_k10] 49))) := B.out.trans (b.mono B.out.size)
  replace Z : Hid (((((((w.heap.size ≤ w.heap.size) ∧ (w).heap.size ≤ w1.heap.size) ∧ (w1).heap.size ≤ w2.heap.size) ∧ (w2).heap.size + 1 ≤ V0.heap.size) ∧ (V0).heap.size ≤ w3.heap.size) ∧ (w3).heap.size ≤ w4.heap.size) ∧ (w4).heap.size + 1 ≤ (w4.alloc (.cells #[.int .i64 R0.f0, .int .i64 R0.f1, .int .i64 R0.f2, .int .i64 R0.f3, .int .i64 R0.f4, .int .i64 R0.f5, .int .i64 R0.f6, .int .i64 R0.f7, .slice ogc0_a8 ogc0_n8 ogc0_k8, .slice ogc0_a9 ogc0_n9 ogc0_k9, .slice ogc0_a10 ogc0_n10 ogc0_k10] 49)).heap.size) := ⟨Z.out, by rw [World.size_alloc]; exact Nat.le_refl _⟩
  clear b
  obtain ⟨q0_0, q0_1, q0_2, q0_3, q0_4, q0_5, q0_6, q0_7, q0_8, q0_9, q0_10⟩ := OWB0.out.eleven
  obtain ⟨q1_0, q1_1, q1_2, q1_3, q1_4, q1_5, q1_6, q1_7, q1_8, q1_9, q1_10⟩ := OGB0.out.eleven
  go_wp2_with fail
  obtain ⟨V1, hV⟩ : ∃ V, V = w4.alloc (.cells #[.int .i64 R0.f0, .int .i64 R0.f1, .int .i64 R0.f2, .int .i64 R0.f3, .int .i64 R0.f4, .int .i64 R0.f5, .int .i64 R0.f6, .int .i64 R0.f7, .slice ogc0_a8 ogc0_n8 ogc0_k8, .slice ogc0_a9 ogc0_n9 ogc0_k9, .slice ogc0_a10 ogc0_n10 ogc0_k10] 49) := ⟨_, rfl⟩
  rw [← hV] at B Z OW0 OW1 X0 OG0 OG1 OWB0 OGB0 ⊢
  clear hV
  refine (eqGreet_same _ _ R0 _ OG0.out.reads OW0.out.reads).mono ?_
  rintro e w5 ⟨rfl, b⟩
  clear q0_0 q0_1 q0_2 q0_3 q0_4 q0_5 q0_6 q0_7 q0_8 q0_9 q0_10 q1_0 q1_1 q1_2 q1_3 q1_4 q1_5 q1_6 q1_7 q1_8 q1_9 q1_10
  replace OW0 := hid (OW0.out.below b)
  replace OW1 := hid (OW1.out.below b)
  replace X0 := hid (X0.out.below b)
  replace OG0 := hid (OG0.out.below b)
  replace OG1 := hid (OG1.out.below b)
  replace OWB0 := hid (OWB0.out.below b OWB0.out.lt)
  replace OGB0 := hid (OGB0.out.below b OGB0.out.lt)
  replace B : Hid (Below w.heap.size w w5) := B.out.trans (b.mono B.out.size)
  replace Z : Hid ((((((((w.heap.size ≤ w.heap.size) ∧ (w).heap.size ≤ w1.heap.size) ∧ (w1).heap.size ≤ w2.heap.size) ∧ (w2).heap.size + 1 ≤ V0.heap.size) ∧ (V0).heap.size ≤ w3.heap.size) ∧ (w3).heap.size ≤ w4.heap.size) ∧ (w4).heap.size + 1 ≤ V1.heap.size) ∧ (V1).heap.size ≤ w5.heap.size) := ⟨Z.out, b.size⟩
  clear b
  obtain ⟨q0_0, q0_1, q0_2, q0_3, q0_4, q0_5, q0_6, q0_7, q0_8, q0_9, q0_10⟩ := OWB0.out.eleven
  obtain ⟨q1_0, q1_1, q1_2, q1_3, q1_4, q1_5, q1_6, q1_7, q1_8, q1_9, q1_10⟩ := OGB0.out.eleven
  go_wp2_with fail
  refine (eqBoolS_same _ _ R1 _ OG1.out.reads OW1.out.reads).mono ?_
  rintro e w6 ⟨rfl, b⟩
  clear q0_0 q0_1 q0_2 q0_3 q0_4 q0_5 q0_6 q0_7 q0_8 q0_9 q0_10 q1_0 q1_1 q1_2 q1_3 q1_4 q1_5 q1_6 q1_7 q1_8 q1_9 q1_10
  replace OW0 := hid (OW0.out.below b)
  replace OW1 := hid (OW1.out.below b)
  replace X0 := hid (X0.out.below b)
  replace OG0 := hid (OG0.out.below b)
  replace OG1 := hid (OG1.out.below b)
  replace OWB0 := hid (OWB0.out.below b OWB0.out.lt)
  replace OGB0 := hid (OGB0.out.below b OGB0.out.lt)
  replace B : Hid (Below w.heap.size w w6) := B.out.trans (b.mono B.out.size)
  replace Z : Hid (((((((((w.heap.size ≤ w.heap.size) ∧ (w).heap.size ≤ w1.heap.size) ∧ (w1).heap.size ≤ w2.heap.size) ∧ (w2).heap.size + 1 ≤ V0.heap.size) ∧ (V0).heap.size ≤ w3.heap.size) ∧ (w3).heap.size ≤ w4.heap.size) ∧ (w4).heap.size + 1 ≤ V1.heap.size) ∧ (V1).heap.size ≤ w5.heap.size) ∧ (w5).heap.size ≤ w6.heap.size) := ⟨Z.out, b.size⟩
  clear b
  obtain ⟨q0_0, q0_1, q0_2, q0_3, q0_4, q0_5, q0_6, q0_7, q0_8, q0_9, q0_10⟩ := OWB0.out.eleven
  obtain ⟨q1_0, q1_1, q1_2, q1_3, q1_4, q1_5, q1_6, q1_7, q1_8, q1_9, q1_10⟩ := OGB0.out.eleven
  go_wp2_with fail
  refine (toGreetStepS_any _ D0 _ (HR.out.below B.out) hN0).mono ?_
  rintro e w7 ⟨tw7, rfl, o, b⟩
  clear q0_0 q0_1 q0_2 q0_3 q0_4 q0_5 q0_6 q0_7 q0_8 q0_9 q0_10 q1_0 q1_1 q1_2 q1_3 q1_4 q1_5 q1_6 q1_7 q1_8 q1_9 q1_10
  replace OW0 := hid (OW0.out.below b)
  replace OW1 := hid (OW1.out.below b)
  replace X0 := hid (X0.out.below b)
  replace OG0 := hid (OG0.out.below b)
  replace OG1 := hid (OG1.out.below b)
  replace OWB0 := hid (OWB0.out.below b OWB0.out.lt)
  replace OGB0 := hid (OGB0.out.below b OGB0.out.lt)
  replace B : Hid (Below w.heap.size w w7) := B.out.trans (b.mono B.out.size)
  replace Z : Hid ((((((((((w.heap.size ≤ w.heap.size) ∧ (w).heap.size ≤ w1.heap.size) ∧ (w1).heap.size ≤ w2.heap.size) ∧ (w2).heap.size + 1 ≤ V0.heap.size) ∧ (V0).heap.size ≤ w3.heap.size) ∧ (w3).heap.size ≤ w4.heap.size) ∧ (w4).heap.size + 1 ≤ V1.heap.size) ∧ (V1).heap.size ≤ w5.heap.size) ∧ (w5).heap.size ≤ w6.heap.size) ∧ (w6).heap.size ≤ w7.heap.size) := ⟨Z.out, b.size⟩
  clear b
  have A1 := hid o
  clear o
  obtain ⟨q0_0, q0_1, q0_2, q0_3, q0_4, q0_5, q0_6, q0_7, q0_8, q0_9, q0_10⟩ := OWB0.out.eleven
  obtain ⟨q1_0, q1_1, q1_2, q1_3, q1_4, q1_5, q1_6, q1_7, q1_8, q1_9, q1_10⟩ := OGB0.out.eleven
  go_wp2_with fail
  refine (eqGreetStepS_same _ _ D0 _ X0.out.reads A1.out.reads).mono ?_
  rintro e w8 ⟨rfl, b⟩
  clear q0_0 q0_1 q0_2 q0_3 q0_4 q0_5 q0_6 q0_7 q0_8 q0_9 q0_10 q1_0 q1_1 q1_2 q1_3 q1_4 q1_5 q1_6 q1_7 q1_8 q1_9 q1_10
  replace OW0 := hid (OW0.out.below b)
  replace OW1 := hid (OW1.out.below b)
  replace X0 := hid (X0.out.below b)
  replace OG0 := hid (OG0.out.below b)
  replace OG1 := hid (OG1.out.below b)
  replace A1 := hid (A1.out.below b)
  replace OWB0 := hid (OWB0.out.below b OWB0.out.lt)
  replace OGB0 := hid (OGB0.out.below b OGB0.out.lt)
  replace B : Hid (Below w.heap.size w w8) := B.out.trans (b.mono B.out.size)
  replace Z : Hid (((((((((((w.heap.size ≤ w.heap.size) ∧ (w).heap.size ≤ w1.heap.size) ∧ (w1).heap.size ≤ w2.heap.size) ∧ (w2).heap.size + 1 ≤ V0.heap.size) ∧ (V0).heap.size ≤ w3.heap.size) ∧ (w3).heap.size ≤ w4.heap.size) ∧ (w4).heap.size + 1 ≤ V1.heap.size) ∧ (V1).heap.size ≤ w5.heap.size) ∧ (w5).heap.size ≤ w6.heap.size) ∧ (w6).heap.size ≤ w7.heap.size) ∧ (w7).heap.size ≤ w8.heap.size) := ⟨Z.out, b.size⟩
  clear b
  clear A1
  obtain ⟨q0_0, q0_1, q0_2, q0_3, q0_4, q0_5, q0_6, q0_7, q0_8, q0_9, q0_10⟩ := OWB0.out.eleven
  obtain ⟨q1_0, q1_1, q1_2, q1_3, q1_4, q1_5, q1_6, q1_7, q1_8, q1_9, q1_10⟩ := OGB0.out.eleven
  go_wp2_with fail
  obtain ⟨mx, hm, mx_0, mx_1⟩ : ∃ m : Int, m = 1 + (2 * D0.length : Nat) ∧ 0 ≤ m ∧ m ≤ 4500000 := ⟨_, rfl, by omega, by omega⟩
  have HM_mx := hid hm
  clear hm
  refine (markGreetStepS_any V0.heap.size w3.heap.size _ D0 1 mx _ X0.out hN0 (by omega) (by omega) HM_mx.out).mono ?_
  rintro e w9 ⟨rfl, o, b, onk⟩
  have on : OnlyS (Iv V0.heap.size w3.heap.size) w8 w9 := fun j _ hj => onk.2 j (by by_cases h1 : j < V0.heap.size; exact .inl h1; by_cases h2 : w3.heap.size ≤ j; exact .inr h2; exact absurd ⟨Nat.le_of_not_lt h1, Nat.lt_of_not_le h2⟩ hj)
  clear onk
  clear q0_0 q0_1 q0_2 q0_3 q0_4 q0_5 q0_6 q0_7 q0_8 q0_9 q0_10 q1_0 q1_1 q1_2 q1_3 q1_4 q1_5 q1_6 q1_7 q1_8 q1_9 q1_10
  replace OW0 := hid (OW0.out.onlyS on (fun g g1 g2 => by have h1 : w1.heap.size ≤ g ∧ g < w2.heap.size := (OW0I.out g g1); have h2 : V0.heap.size ≤ g ∧ g < w3.heap.size := g2; have := Z.out; omega))
  replace OW1 := hid (OW1.out.onlyS on (fun g g1 g2 => by have h1 : w1.heap.size ≤ g ∧ g < w2.heap.size := (OW1I.out g g1); have h2 : V0.heap.size ≤ g ∧ g < w3.heap.size := g2; have := Z.out; omega))
  replace X0 := hid o
  replace OG0 := hid (OG0.out.onlyS on (fun g g1 g2 => by have h1 : w3.heap.size ≤ g ∧ g < w4.heap.size := (OG0I.out g g1); have h2 : V0.heap.size ≤ g ∧ g < w3.heap.size := g2; have := Z.out; omega))
  replace OG1 := hid (OG1.out.onlyS on (fun g g1 g2 => by have h1 : w3.heap.size ≤ g ∧ g < w4.heap.size := (OG1I.out g g1); have h2 : V0.heap.size ≤ g ∧ g < w3.heap.size := g2; have := Z.out; omega))
  replace OWB0 := hid (OWB0.out.of_block (on _ OWB0.out.lt (fun g2 => by have h2 : V0.heap.size ≤ _ ∧ _ < w3.heap.size := g2; have := Z.out; omega)))
  replace OGB0 := hid (OGB0.out.of_block (on _ OGB0.out.lt (fun g2 => by have h2 : V0.heap.size ≤ _ ∧ _ < w3.heap.size := g2; have := Z.out; omega)))
  replace B : Hid (Below w.heap.size w w9) := B.out.trans (b.mono (by have := Z.out; omega))
  replace Z : Hid ((((((((((((w.heap.size ≤ w.heap.size) ∧ (w).heap.size ≤ w1.heap.size) ∧ (w1).heap.size ≤ w2.heap.size) ∧ (w2).heap.size + 1 ≤ V0.heap.size) ∧ (V0).heap.size ≤ w3.heap.size) ∧ (w3).heap.size ≤ w4.heap.size) ∧ (w4).heap.size + 1 ≤ V1.heap.size) ∧ (V1).heap.size ≤ w5.heap.size) ∧ (w5).heap.size ≤ w6.heap.size) ∧ (w6).heap.size ≤ w7.heap.size) ∧ (w7).heap.size ≤ w8.heap.size) ∧ w8.heap.size ≤ w9.heap.size) := ⟨Z.out, b.size⟩
  clear o b on
  have hdx : decide (mx < 0) = false := by rw [decide_eq_false_iff_not]; omega
  obtain ⟨q0_0, q0_1, q0_2, q0_3, q0_4, q0_5, q0_6, q0_7, q0_8, q0_9, q0_10⟩ := OWB0.out.eleven
  obtain ⟨q1_0, q1_1, q1_2, q1_3, q1_4, q1_5, q1_6, q1_7, q1_8, q1_9, q1_10⟩ := OGB0.out.eleven
  go_wp2_with fail
  refine (eqGreet_same _ _ R0 _ OG0.out.reads OW0.out.reads).mono ?_
  rintro e w10 ⟨rfl, b⟩
  clear q0_0 q0_1 q0_2 q0_3 q0_4 q0_5 q0_6 q0_7 q0_8 q0_9 q0_10 q1_0 q1_1 q1_2 q1_3 q1_4 q1_5 q1_6 q1_7 q1_8 q1_9 q1_10
  replace OW0 := hid (OW0.out.below b)
  replace OW1 := hid (OW1.out.below b)
  replace X0 := hid (X0.out.below b)
  replace OG0 := hid (OG0.out.below b)
  replace OG1 := hid (OG1.out.below b)
  replace OWB0 := hid (OWB0.out.below b OWB0.out.lt)
  replace OGB0 := hid (OGB0.out.below b OGB0.out.lt)
  replace B : Hid (Below w.heap.size w w10) := B.out.trans (b.mono B.out.size)
  replace Z : Hid (((((((((((((w.heap.size ≤ w.heap.size) ∧ (w).heap.size ≤ w1.heap.size) ∧ (w1).heap.size ≤ w2.heap.size) ∧ (w2).heap.size + 1 ≤ V0.heap.size) ∧ (V0).heap.size ≤ w3.heap.size) ∧ (w3).heap.size ≤ w4.heap.size) ∧ (w4).heap.size + 1 ≤ V1.heap.size) ∧ (V1).heap.size ≤ w5.heap.size) ∧ (w5).heap.size ≤ w6.heap.size) ∧ (w6).heap.size ≤ w7.heap.size) ∧ (w7).heap.size ≤ w8.heap.size) ∧ w8.heap.size ≤ w9.heap.size) ∧ (w9).heap.size ≤ w10.heap.size) := ⟨Z.out, b.size⟩
  clear b
  obtain ⟨q0_0, q0_1, q0_2, q0_3, q0_4, q0_5, q0_6, q0_7, q0_8, q0_9, q0_10⟩ := OWB0.out.eleven
  obtain ⟨q1_0, q1_1, q1_2, q1_3, q1_4, q1_5, q1_6, q1_7, q1_8, q1_9, q1_10⟩ := OGB0.out.eleven
  go_wp2_with fail
  refine (eqBoolS_same _ _ R1 _ OG1.out.reads OW1.out.reads).mono ?_
  rintro e w11 ⟨rfl, b⟩
  clear q0_0 q0_1 q0_2 q0_3 q0_4 q0_5 q0_6 q0_7 q0_8 q0_9 q0_10 q1_0 q1_1 q1_2 q1_3 q1_4 q1_5 q1_6 q1_7 q1_8 q1_9 q1_10
  replace OW0 := hid (OW0.out.below b)
  replace OW1 := hid (OW1.out.below b)
  replace X0 := hid (X0.out.below b)
  replace OG0 := hid (OG0.out.below b)
  replace OG1 := hid (OG1.out.below b)
  replace OWB0 := hid (OWB0.out.below b OWB0.out.lt)
  replace OGB0 := hid (OGB0.out.below b OGB0.out.lt)
  replace B : Hid (Below w.heap.size w w11) := B.out.trans (b.mono B.out.size)
  replace Z : Hid ((((((((((((((w.heap.size ≤ w.heap.size) ∧ (w).heap.size ≤ w1.heap.size) ∧ (w1).heap.size ≤ w2.heap.size) ∧ (w2).heap.size + 1 ≤ V0.heap.size) ∧ (V0).heap.size ≤ w3.heap.size) ∧ (w3).heap.size ≤ w4.heap.size) ∧ (w4).heap.size + 1 ≤ V1.heap.size) ∧ (V1).heap.size ≤ w5.heap.size) ∧ (w5).heap.size ≤ w6.heap.size) ∧ (w6).heap.size ≤ w7.heap.size) ∧ (w7).heap.size ≤ w8.heap.size) ∧ w8.heap.size ≤ w9.heap.size) ∧ (w9).heap.size ≤ w10.heap.size) ∧ (w10).heap.size ≤ w11.heap.size) := ⟨Z.out, b.size⟩
  clear b
  clear X0
  obtain ⟨q0_0, q0_1, q0_2, q0_3, q0_4, q0_5, q0_6, q0_7, q0_8, q0_9, q0_10⟩ := OWB0.out.eleven
  obtain ⟨q1_0, q1_1, q1_2, q1_3, q1_4, q1_5, q1_6, q1_7, q1_8, q1_9, q1_10⟩ := OGB0.out.eleven
  go_wp2_with fail
  obtain ⟨m0, hm, m0_0, m0_1⟩ : ∃ m : Int, m = 1 + (grN R0 : Nat) ∧ 0 ≤ m ∧ m ≤ 4500000 := ⟨_, rfl, by omega, by omega⟩
  have HM_m0 := hid hm
  clear hm
  have HIN : Hid (∀ g, (ogS0) g → w3.heap.size ≤ g ∧ g < w11.heap.size) := fun g h => by have h1 : w3.heap.size ≤ g ∧ g < w4.heap.size := OG0I.out g h; have := Z.out; omega
  refine (markGreet_any (ogS0) w3.heap.size _ R0 1 m0 _ OG0.out HIN.out (by have := Z.out; omega) hYN0 (by omega) (by omega) HM_m0.out).mono ?_
  rintro e w12 ⟨rfl, o, b, on⟩
  clear HIN
  clear q0_0 q0_1 q0_2 q0_3 q0_4 q0_5 q0_6 q0_7 q0_8 q0_9 q0_10 q1_0 q1_1 q1_2 q1_3 q1_4 q1_5 q1_6 q1_7 q1_8 q1_9 q1_10
  replace OW0 := hid (OW0.out.onlyS on (fun g g1 g2 => by have h1 : w1.heap.size ≤ g ∧ g < w2.heap.size := (OW0I.out g g1); have h2 : w3.heap.size ≤ g ∧ g < w4.heap.size := (OG0I.out g g2); have := Z.out; omega))
  replace OW1 := hid (OW1.out.onlyS on (fun g g1 g2 => by have h1 : w1.heap.size ≤ g ∧ g < w2.heap.size := (OW1I.out g g1); have h2 : w3.heap.size ≤ g ∧ g < w4.heap.size := (OG0I.out g g2); have := Z.out; omega))
  replace OG0 := hid o
  replace OG1 := hid (OG1.out.onlyS on (fun g g1 g2 => OGDJ.out g g2 g1))
  replace OWB0 := hid (OWB0.out.of_block (on _ OWB0.out.lt (fun g2 => by have h2 : w3.heap.size ≤ _ ∧ _ < w4.heap.size := OG0I.out _ g2; have := Z.out; omega)))
  replace OGB0 := hid (OGB0.out.of_block (on _ OGB0.out.lt (fun g2 => by have h2 : w3.heap.size ≤ _ ∧ _ < w4.heap.size := OG0I.out _ g2; have := Z.out; omega)))
  replace B : Hid (Below w.heap.size w w12) := B.out.trans (b.mono (by have := Z.out; omega))
  replace Z : Hid (((((((((((((((w.heap.size ≤ w.heap.size) ∧ (w).heap.size ≤ w1.heap.size) ∧ (w1).heap.size ≤ w2.heap.size) ∧ (w2).heap.size + 1 ≤ V0.heap.size) ∧ (V0).heap.size ≤ w3.heap.size) ∧ (w3).heap.size ≤ w4.heap.size) ∧ (w4).heap.size + 1 ≤ V1.heap.size) ∧ (V1).heap.size ≤ w5.heap.size) ∧ (w5).heap.size ≤ w6.heap.size) ∧ (w6).heap.size ≤ w7.heap.size) ∧ (w7).heap.size ≤ w8.heap.size) ∧ w8.heap.size ≤ w9.heap.size) ∧ (w9).heap.size ≤ w10.heap.size) ∧ (w10).heap.size ≤ w11.heap.size) ∧ w11.heap.size ≤ w12.heap.size) := ⟨Z.out, b.size⟩
  clear o b on
  have hdm0 : decide (m0 < 0) = false := by rw [decide_eq_false_iff_not]; omega
  obtain ⟨q0_0, q0_1, q0_2, q0_3, q0_4, q0_5, q0_6, q0_7, q0_8, q0_9, q0_10⟩ := OWB0.out.eleven
  obtain ⟨q1_0, q1_1, q1_2, q1_3, q1_4, q1_5, q1_6, q1_7, q1_8, q1_9, q1_10⟩ := OGB0.out.eleven
  go_wp2_with fail
  obtain ⟨m1, hm, m1_0, m1_1⟩ : ∃ m : Int, m = m0 + (R1.length : Nat) ∧ 0 ≤ m ∧ m ≤ 9000000 := ⟨_, rfl, by omega, by omega⟩
  have HM_m1 := hid hm
  clear hm
  obtain ⟨l_, e_, ko, hS⟩ := OG1.out
  have KO := hid ko
  have HSS := hid hS
  clear ko hS
  refine (kmarkBoolS_any l_ e_ _ R1 m0 m1 _ KO.out hy1 (by omega) (by omega) HM_m1.out).mono ?_
  rintro e w13 ⟨rfl, ok, bk, onk⟩
  have on : OnlyS (ogS1) w12 w13 := BoOwnS.on HSS.out onk
  have o : BoOwnS (ogS1) w13 ogu1 (bmarks m0 R1.length) := ⟨l_, e_, ok, HSS.out⟩
  have b : Below w3.heap.size w12 w13 := BoOwnS.frame KO.out HSS.out (fun g h => (OG1I.out g h).1) (by have := Z.out; omega) bk onk
  clear ok bk onk KO HSS
  clear q0_0 q0_1 q0_2 q0_3 q0_4 q0_5 q0_6 q0_7 q0_8 q0_9 q0_10 q1_0 q1_1 q1_2 q1_3 q1_4 q1_5 q1_6 q1_7 q1_8 q1_9 q1_10
  replace OW0 := hid (OW0.out.onlyS on (fun g g1 g2 => by have h1 : w1.heap.size ≤ g ∧ g < w2.heap.size := (OW0I.out g g1); have h2 : w3.heap.size ≤ g ∧ g < w4.heap.size := (OG1I.out g g2); have := Z.out; omega))
  replace OW1 := hid (OW1.out.onlyS on (fun g g1 g2 => by have h1 : w1.heap.size ≤ g ∧ g < w2.heap.size := (OW1I.out g g1); have h2 : w3.heap.size ≤ g ∧ g < w4.heap.size := (OG1I.out g g2); have := Z.out; omega))
  replace OG0 := hid (OG0.out.onlyS on (fun g g1 g2 => OGDJ.out g g1 g2))
  replace OG1 := hid o
  replace OWB0 := hid (OWB0.out.of_block (on _ OWB0.out.lt (fun g2 => by have h2 : w3.heap.size ≤ _ ∧ _ < w4.heap.size := OG1I.out _ g2; have := Z.out; omega)))
  replace OGB0 := hid (OGB0.out.of_block (on _ OGB0.out.lt (fun g2 => by have h2 : w3.heap.size ≤ _ ∧ _ < w4.heap.size := OG1I.out _ g2; have := Z.out; omega)))
  replace B : Hid (Below w.heap.size w w13) := B.out.trans (b.mono (by have := Z.out; omega))
  replace Z : Hid ((((((((((((((((w.heap.size ≤ w.heap.size) ∧ (w).heap.size ≤ w1.heap.size) ∧ (w1).heap.size ≤ w2.heap.size) ∧ (w2).heap.size + 1 ≤ V0.heap.size) ∧ (V0).heap.size ≤ w3.heap.size) ∧ (w3).heap.size ≤ w4.heap.size) ∧ (w4).heap.size + 1 ≤ V1.heap.size) ∧ (V1).heap.size ≤ w5.heap.size) ∧ (w5).heap.size ≤ w6.heap.size) ∧ (w6).heap.size ≤ w7.heap.size) ∧ (w7).heap.size ≤ w8.heap.size) ∧ w8.heap.size ≤ w9.heap.size) ∧ (w9).heap.size ≤ w10.heap.size) ∧ (w10).heap.size ≤ w11.heap.size) ∧ w11.heap.size ≤ w12.heap.size) ∧ w12.heap.size ≤ w13.heap.size) := ⟨Z.out, b.size⟩
  clear o b on
  have hdm1 : decide (m1 < 0) = false := by rw [decide_eq_false_iff_not]; omega
  obtain ⟨q0_0, q0_1, q0_2, q0_3, q0_4, q0_5, q0_6, q0_7, q0_8, q0_9, q0_10⟩ := OWB0.out.eleven
  obtain ⟨q1_0, q1_1, q1_2, q1_3, q1_4, q1_5, q1_6, q1_7, q1_8, q1_9, q1_10⟩ := OGB0.out.eleven
  go_wp2_with fail
  refine (heldGreet_any _ R0 1 m0 _ OG0.out.reads hYN0 (by omega) (by omega) HM_m0.out).mono ?_
  rintro e w14 ⟨rfl, b⟩
  clear q0_0 q0_1 q0_2 q0_3 q0_4 q0_5 q0_6 q0_7 q0_8 q0_9 q0_10 q1_0 q1_1 q1_2 q1_3 q1_4 q1_5 q1_6 q1_7 q1_8 q1_9 q1_10
  replace OW0 := hid (OW0.out.below b)
  replace OW1 := hid (OW1.out.below b)
  replace OG0 := hid (OG0.out.below b)
  replace OG1 := hid (OG1.out.below b)
  replace OWB0 := hid (OWB0.out.below b OWB0.out.lt)
  replace OGB0 := hid (OGB0.out.below b OGB0.out.lt)
  replace B : Hid (Below w.heap.size w w14) := B.out.trans (b.mono B.out.size)
  replace Z : Hid (((((((((((((((((w.heap.size ≤ w.heap.size) ∧ (w).heap.size ≤ w1.heap.size) ∧ (w1).heap.size ≤ w2.heap.size) ∧ (w2).heap.size + 1 ≤ V0.heap.size) ∧ (V0).heap.size ≤ w3.heap.size) ∧ (w3).heap.size ≤ w4.heap.size) ∧ (w4).heap.size + 1 ≤ V1.heap.size) ∧ (V1).heap.size ≤ w5.heap.size) ∧ (w5).heap.size ≤ w6.heap.size) ∧ (w6).heap.size ≤ w7.heap.size) ∧ (w7).heap.size ≤ w8.heap.size) ∧ w8.heap.size ≤ w9.heap.size) ∧ (w9).heap.size ≤ w10.heap.size) ∧ (w10).heap.size ≤ w11.heap.size) ∧ w11.heap.size ≤ w12.heap.size) ∧ w12.heap.size ≤ w13.heap.size) ∧ (w13).heap.size ≤ w14.heap.size) := ⟨Z.out, b.size⟩
  clear b
  obtain ⟨q0_0, q0_1, q0_2, q0_3, q0_4, q0_5, q0_6, q0_7, q0_8, q0_9, q0_10⟩ := OWB0.out.eleven
  obtain ⟨q1_0, q1_1, q1_2, q1_3, q1_4, q1_5, q1_6, q1_7, q1_8, q1_9, q1_10⟩ := OGB0.out.eleven
  go_wp2_with fail
  refine (kheldBoolS_any _ R1.length m0 m1 _ OG1.out.reads hy1 (by omega) (by omega) HM_m1.out).mono ?_
  rintro e w' ⟨rfl, hw⟩; obtain rfl := hw.symm
  clear q0_0 q0_1 q0_2 q0_3 q0_4 q0_5 q0_6 q0_7 q0_8 q0_9 q0_10 q1_0 q1_1 q1_2 q1_3 q1_4 q1_5 q1_6 q1_7 q1_8 q1_9 q1_10
  obtain ⟨q0_0, q0_1, q0_2, q0_3, q0_4, q0_5, q0_6, q0_7, q0_8, q0_9, q0_10⟩ := OWB0.out.eleven
  obtain ⟨q1_0, q1_1, q1_2, q1_3, q1_4, q1_5, q1_6, q1_7, q1_8, q1_9, q1_10⟩ := OGB0.out.eleven
  go_wp2_with fail
  refine (toGreetStepS_any _ D0 _ (HR.out.below B.out) hN0).mono ?_
  rintro e w15 ⟨tw15, rfl, o, b⟩
  clear q0_0 q0_1 q0_2 q0_3 q0_4 q0_5 q0_6 q0_7 q0_8 q0_9 q0_10 q1_0 q1_1 q1_2 q1_3 q1_4 q1_5 q1_6 q1_7 q1_8 q1_9 q1_10
  replace OW0 := hid (OW0.out.below b)
  replace OW1 := hid (OW1.out.below b)
  replace OG0 := hid (OG0.out.below b)
  replace OG1 := hid (OG1.out.below b)
  replace OWB0 := hid (OWB0.out.below b OWB0.out.lt)
  replace OGB0 := hid (OGB0.out.below b OGB0.out.lt)
  replace B : Hid (Below w.heap.size w w15) := B.out.trans (b.mono B.out.size)
  replace Z : Hid ((((((((((((((((((w.heap.size ≤ w.heap.size) ∧ (w).heap.size ≤ w1.heap.size) ∧ (w1).heap.size ≤ w2.heap.size) ∧ (w2).heap.size + 1 ≤ V0.heap.size) ∧ (V0).heap.size ≤ w3.heap.size) ∧ (w3).heap.size ≤ w4.heap.size) ∧ (w4).heap.size + 1 ≤ V1.heap.size) ∧ (V1).heap.size ≤ w5.heap.size) ∧ (w5).heap.size ≤ w6.heap.size) ∧ (w6).heap.size ≤ w7.heap.size) ∧ (w7).heap.size ≤ w8.heap.size) ∧ w8.heap.size ≤ w9.heap.size) ∧ (w9).heap.size ≤ w10.heap.size) ∧ (w10).heap.size ≤ w11.heap.size) ∧ w11.heap.size ≤ w12.heap.size) ∧ w12.heap.size ≤ w13.heap.size) ∧ (w13).heap.size ≤ w14.heap.size) ∧ (w14).heap.size ≤ w15.heap.size) := ⟨Z.out, b.size⟩
  clear b
  have A9 := hid o
  clear o
  obtain ⟨q0_0, q0_1, q0_2, q0_3, q0_4, q0_5, q0_6, q0_7, q0_8, q0_9, q0_10⟩ := OWB0.out.eleven
  obtain ⟨q1_0, q1_1, q1_2, q1_3, q1_4, q1_5, q1_6, q1_7, q1_8, q1_9, q1_10⟩ := OGB0.out.eleven
  go_wp2_with fail
  refine (HI'.out tw15 _ A9.out.reads).mono ?_
  rintro e w16 ⟨ohu0, ohu1, ohS0, ohS1, rfl, o0, o1, hdj, hin, b⟩
  clear q0_0 q0_1 q0_2 q0_3 q0_4 q0_5 q0_6 q0_7 q0_8 q0_9 q0_10 q1_0 q1_1 q1_2 q1_3 q1_4 q1_5 q1_6 q1_7 q1_8 q1_9 q1_10
  replace OW0 := hid (OW0.out.below b)
  replace OW1 := hid (OW1.out.below b)
  replace OG0 := hid (OG0.out.below b)
  replace OG1 := hid (OG1.out.below b)
  replace A9 := hid (A9.out.below b)
  replace OWB0 := hid (OWB0.out.below b OWB0.out.lt)
  replace OGB0 := hid (OGB0.out.below b OGB0.out.lt)
  replace B : Hid (Below w.heap.size w w16) := B.out.trans (b.mono B.out.size)
  replace Z : Hid (((((((((((((((((((w.heap.size ≤ w.heap.size) ∧ (w).heap.size ≤ w1.heap.size) ∧ (w1).heap.size ≤ w2.heap.size) ∧ (w2).heap.size + 1 ≤ V0.heap.size) ∧ (V0).heap.size ≤ w3.heap.size) ∧ (w3).heap.size ≤ w4.heap.size) ∧ (w4).heap.size + 1 ≤ V1.heap.size) ∧ (V1).heap.size ≤ w5.heap.size) ∧ (w5).heap.size ≤ w6.heap.size) ∧ (w6).heap.size ≤ w7.heap.size) ∧ (w7).heap.size ≤ w8.heap.size) ∧ w8.heap.size ≤ w9.heap.size) ∧ (w9).heap.size ≤ w10.heap.size) ∧ (w10).heap.size ≤ w11.heap.size) ∧ w11.heap.size ≤ w12.heap.size) ∧ w12.heap.size ≤ w13.heap.size) ∧ (w13).heap.size ≤ w14.heap.size) ∧ (w14).heap.size ≤ w15.heap.size) ∧ (w15).heap.size ≤ w16.heap.size) := ⟨Z.out, b.size⟩
  clear b
  clear A9
  obtain ⟨ohc0_a8, ohc0_n8, ohc0_k8, ohc0_a9, ohc0_n9, ohc0_k9, ohc0_a10, ohc0_n10, ohc0_k10, rfl⟩ := o0.form
  have OH0 := hid o0
  have OH0I : Hid (∀ g, ohS0 g → w15.heap.size ≤ g ∧ g < w16.heap.size) := fun g h => hin g (.inl h)
  have OH1 := hid o1
  have OH1I : Hid (∀ g, ohS1 g → w15.heap.size ≤ g ∧ g < w16.heap.size) := fun g h => hin g (.inr h)
  have OHDJ := hid hdj
  clear hdj hin
  clear o0 o1
  have b : Below (w16).heap.size (w16) (w16.alloc (.cells #[.int .i64 R0.f0, .int .i64 R0.f1, .int .i64 R0.f2, .int .i64 R0.f3, .int .i64 R0.f4, .int .i64 R0.f5, .int .i64 R0.f6, .int .i64 R0.f7, .slice ohc0_a8 ohc0_n8 ohc0_k8, .slice ohc0_a9 ohc0_n9 ohc0_k9, .slice ohc0_a10 ohc0_n10 ohc0_k10] 49)) := (Below.refl _ _).alloc (Nat.le_refl _) _
  replace OW0 := hid (OW0.out.below b)
  replace OW1 := hid (OW1.out.below b)
  replace OG0 := hid (OG0.out.below b)
  replace OG1 := hid (OG1.out.below b)
  replace OH0 := hid (OH0.out.below b)
  replace OH1 := hid (OH1.out.below b)
  replace OWB0 := hid (OWB0.out.below b OWB0.out.lt)
  replace OGB0 := hid (OGB0.out.below b OGB0.out.lt)
  have OHB0 := hid (boxL_new (w16) [.int .i64 R0.f0, .int .i64 R0.f1, .int .i64 R0.f2, .int .i64 R0.f3, .int .i64 R0.f4, .int .i64 R0.f5, .int .i64 R0.f6, .int .i64 R0.f7, .slice ohc0_a8 ohc0_n8 ohc0_k8, .slice ohc0_a9 ohc0_n9 ohc0_k9, .slice ohc0_a10 ohc0_n10 ohc0_k10] 49)
  replace B : Hid (Below w.heap.size w (w16.alloc (.cells #[.int .i64 R0.f0, .int .i64 R0.f1, .int .i64 R0.f2, .int .i64 R0.f3, .int .i64 R0.f4, .int .i64 R0.f5, .int .i64 R0.f6, .int .i64 R0.f7, .slice ohc0_a8 ohc0_n8 ohc0_k8, .slice ohc0_a9 ohc0_n9 ohc0_k9, .slice ohc0_a10 ohc0_n10 ohc0_k10] 49))) := B.out.trans (b.mono B.out.size)
  replace Z : Hid ((((((((((((((((((((w.heap.size ≤ w.heap.size) ∧ (w).heap.size ≤ w1.heap.size) ∧ (w1).heap.size ≤ w2.heap.size) ∧ (w2).heap.size + 1 ≤ V0.heap.size) ∧ (V0).heap.size ≤ w3.heap.size) ∧ (w3).heap.size ≤ w4.heap.size) ∧ (w4).heap.size + 1 ≤ V1.heap.size) ∧ (V1).heap.size ≤ w5.heap.size) ∧ (w5).heap.size ≤ w6.heap.size) ∧ (w6).heap.size ≤ w7.heap.size) ∧ (w7).heap.size ≤ w8.heap.size) ∧ w8.heap.size ≤ w9.heap.size) ∧ (w9).heap.size ≤ w10.heap.size) ∧ (w10).heap.size ≤ w11.heap.size) ∧ w11.heap.size ≤ w12.heap.size) ∧ w12.heap.size ≤ w13.heap.size) ∧ (w13).heap.size ≤ w14.heap.size) ∧ (w14).heap.size ≤ w15.heap.size) ∧ (w15).heap.size ≤ w16.heap.size) ∧ (w16).heap.size + 1 ≤ (w16.alloc (.cells #[.int .i64 R0.f0, .int .i64 R0.f1, .int .i64 R0.f2, .int .i64 R0.f3, .int .i64 R0.f4, .int .i64 R0.f5, .int .i64 R0.f6, .int .i64 R0.f7, .slice ohc0_a8 ohc0_n8 ohc0_k8, .slice ohc0_a9 ohc0_n9 ohc0_k9, .slice ohc0_a10 ohc0_n10 ohc0_k10] 49)).heap.size) := ⟨Z.out, by rw [World.size_alloc]; exact Nat.le_refl _⟩
  clear b
  obtain ⟨q0_0, q0_1, q0_2, q0_3, q0_4, q0_5, q0_6, q0_7, q0_8, q0_9, q0_10⟩ := OWB0.out.eleven
  obtain ⟨q1_0, q1_1, q1_2, q1_3, q1_4, q1_5, q1_6, q1_7, q1_8, q1_9, q1_10⟩ := OGB0.out.eleven
  obtain ⟨q2_0, q2_1, q2_2, q2_3, q2_4, q2_5, q2_6, q2_7, q2_8, q2_9, q2_10⟩ := OHB0.out.eleven
  go_wp2_with fail
  obtain ⟨V2, hV⟩ : ∃ V, V = w16.alloc (.cells #[.int .i64 R0.f0, .int .i64 R0.f1, .int .i64 R0.f2, .int .i64 R0.f3, .int .i64 R0.f4, .int .i64 R0.f5, .int .i64 R0.f6, .int .i64 R0.f7, .slice ohc0_a8 ohc0_n8 ohc0_k8, .slice ohc0_a9 ohc0_n9 ohc0_k9, .slice ohc0_a10 ohc0_n10 ohc0_k10] 49) := ⟨_, rfl⟩
  rw [← hV] at B Z OW0 OW1 OG0 OG1 OH0 OH1 OWB0 OGB0 OHB0 ⊢
  clear hV
  refine (eqGreet_same _ _ R0 _ OH0.out.reads OW0.out.reads).mono ?_
  rintro e w17 ⟨rfl, b⟩
  clear q0_0 q0_1 q0_2 q0_3 q0_4 q0_5 q0_6 q0_7 q0_8 q0_9 q0_10 q1_0 q1_1 q1_2 q1_3 q1_4 q1_5 q1_6 q1_7 q1_8 q1_9 q1_10 q2_0 q2_1 q2_2 q2_3 q2_4 q2_5 q2_6 q2_7 q2_8 q2_9 q2_10
  replace OW0 := hid (OW0.out.below b)
  replace OW1 := hid (OW1.out.below b)
  replace OG0 := hid (OG0.out.below b)
  replace OG1 := hid (OG1.out.below b)
  replace OH0 := hid (OH0.out.below b)
  replace OH1 := hid (OH1.out.below b)
  replace OWB0 := hid (OWB0.out.below b OWB0.out.lt)
  replace OGB0 := hid (OGB0.out.below b OGB0.out.lt)
  replace OHB0 := hid (OHB0.out.below b OHB0.out.lt)
  replace B : Hid (Below w.heap.size w w17) := B.out.trans (b.mono B.out.size)
  replace Z : Hid (((((((((((((((((((((w.heap.size ≤ w.heap.size) ∧ (w).heap.size ≤ w1.heap.size) ∧ (w1).heap.size ≤ w2.heap.size) ∧ (w2).heap.size + 1 ≤ V0.heap.size) ∧ (V0).heap.size ≤ w3.heap.size) ∧ (w3).heap.size ≤ w4.heap.size) ∧ (w4).heap.size + 1 ≤ V1.heap.size) ∧ (V1).heap.size ≤ w5.heap.size) ∧ (w5).heap.size ≤ w6.heap.size) ∧ (w6).heap.size ≤ w7.heap.size) ∧ (w7).heap.size ≤ w8.heap.size) ∧ w8.heap.size ≤ w9.heap.size) ∧ (w9).heap.size ≤ w10.heap.size) ∧ (w10).heap.size ≤ w11.heap.size) ∧ w11.heap.size ≤ w12.heap.size) ∧ w12.heap.size ≤ w13.heap.size) ∧ (w13).heap.size ≤ w14.heap.size) ∧ (w14).heap.size ≤ w15.heap.size) ∧ (w15).heap.size ≤ w16.heap.size) ∧ (w16).heap.size + 1 ≤ V2.heap.size) ∧ (V2).heap.size ≤ w17.heap.size) := ⟨Z.out, b.size⟩
  clear b
  obtain ⟨q0_0, q0_1, q0_2, q0_3, q0_4, q0_5, q0_6, q0_7, q0_8, q0_9, q0_10⟩ := OWB0.out.eleven
  obtain ⟨q1_0, q1_1, q1_2, q1_3, q1_4, q1_5, q1_6, q1_7, q1_8, q1_9, q1_10⟩ := OGB0.out.eleven
  obtain ⟨q2_0, q2_1, q2_2, q2_3, q2_4, q2_5, q2_6, q2_7, q2_8, q2_9, q2_10⟩ := OHB0.out.eleven
  go_wp2_with fail
  refine (eqBoolS_same _ _ R1 _ OH1.out.reads OW1.out.reads).mono ?_
  rintro e w18 ⟨rfl, b⟩
  clear q0_0 q0_1 q0_2 q0_3 q0_4 q0_5 q0_6 q0_7 q0_8 q0_9 q0_10 q1_0 q1_1 q1_2 q1_3 q1_4 q1_5 q1_6 q1_7 q1_8 q1_9 q1_10 q2_0 q2_1 q2_2 q2_3 q2_4 q2_5 q2_6 q2_7 q2_8 q2_9 q2_10
  replace OW0 := hid (OW0.out.below b)
  replace OW1 := hid (OW1.out.below b)
  replace OG0 := hid (OG0.out.below b)
  replace OG1 := hid (OG1.out.below b)
  replace OH0 := hid (OH0.out.below b)
  replace OH1 := hid (OH1.out.below b)
  replace OWB0 := hid (OWB0.out.below b OWB0.out.lt)
  replace OGB0 := hid (OGB0.out.below b OGB0.out.lt)
  replace OHB0 := hid (OHB0.out.below b OHB0.out.lt)
  replace B : Hid (Below w.heap.size w w18) := B.out.trans (b.mono B.out.size)
  replace Z : Hid ((((((((((((((((((((((w.heap.size ≤ w.heap.size) ∧ (w).heap.size ≤ w1.heap.size) ∧ (w1).heap.size ≤ w2.heap.size) ∧ (w2).heap.size + 1 ≤ V0.heap.size) ∧ (V0).heap.size ≤ w3.heap.size) ∧ (w3).heap.size ≤ w4.heap.size) ∧ (w4).heap.size + 1 ≤ V1.heap.size) ∧ (V1).heap.size ≤ w5.heap.size) ∧ (w5).heap.size ≤ w6.heap.size) ∧ (w6).heap.size ≤ w7.heap.size) ∧ (w7).heap.size ≤ w8.heap.size) ∧ w8.heap.size ≤ w9.heap.size) ∧ (w9).heap.size ≤ w10.heap.size) ∧ (w10).heap.size ≤ w11.heap.size) ∧ w11.heap.size ≤ w12.heap.size) ∧ w12.heap.size ≤ w13.heap.size) ∧ (w13).heap.size ≤ w14.heap.size) ∧ (w14).heap.size ≤ w15.heap.size) ∧ (w15).heap.size ≤ w16.heap.size) ∧ (w16).heap.size + 1 ≤ V2.heap.size) ∧ (V2).heap.size ≤ w17.heap.size) ∧ (w17).heap.size ≤ w18.heap.size) := ⟨Z.out, b.size⟩
  clear b
  obtain ⟨q0_0, q0_1, q0_2, q0_3, q0_4, q0_5, q0_6, q0_7, q0_8, q0_9, q0_10⟩ := OWB0.out.eleven
  obtain ⟨q1_0, q1_1, q1_2, q1_3, q1_4, q1_5, q1_6, q1_7, q1_8, q1_9, q1_10⟩ := OGB0.out.eleven
  obtain ⟨q2_0, q2_1, q2_2, q2_3, q2_4, q2_5, q2_6, q2_7, q2_8, q2_9, q2_10⟩ := OHB0.out.eleven
  go_wp2_with fail
  refine (heldGreet_any _ R0 1 m0 _ OG0.out.reads hYN0 (by omega) (by omega) HM_m0.out).mono ?_
  rintro e w19 ⟨rfl, b⟩
  clear q0_0 q0_1 q0_2 q0_3 q0_4 q0_5 q0_6 q0_7 q0_8 q0_9 q0_10 q1_0 q1_1 q1_2 q1_3 q1_4 q1_5 q1_6 q1_7 q1_8 q1_9 q1_10 q2_0 q2_1 q2_2 q2_3 q2_4 q2_5 q2_6 q2_7 q2_8 q2_9 q2_10
  replace OW0 := hid (OW0.out.below b)
  replace OW1 := hid (OW1.out.below b)
  replace OG0 := hid (OG0.out.below b)
  replace OG1 := hid (OG1.out.below b)
  replace OH0 := hid (OH0.out.below b)
  replace OH1 := hid (OH1.out.below b)
  replace OWB0 := hid (OWB0.out.below b OWB0.out.lt)
  replace OGB0 := hid (OGB0.out.below b OGB0.out.lt)
  replace OHB0 := hid (OHB0.out.below b OHB0.out.lt)
  replace B : Hid (Below w.heap.size w w19) := B.out.trans (b.mono B.out.size)
  replace Z : Hid (((((((((((((((((((((((w.heap.size ≤ w.heap.size) ∧ (w).heap.size ≤ w1.heap.size) ∧ (w1).heap.size ≤ w2.heap.size) ∧ (w2).heap.size + 1 ≤ V0.heap.size) ∧ (V0).heap.size ≤ w3.heap.size) ∧ (w3).heap.size ≤ w4.heap.size) ∧ (w4).heap.size + 1 ≤ V1.heap.size) ∧ (V1).heap.size ≤ w5.heap.size) ∧ (w5).heap.size ≤ w6.heap.size) ∧ (w6).heap.size ≤ w7.heap.size) ∧ (w7).heap.size ≤ w8.heap.size) ∧ w8.heap.size ≤ w9.heap.size) ∧ (w9).heap.size ≤ w10.heap.size) ∧ (w10).heap.size ≤ w11.heap.size) ∧ w11.heap.size ≤ w12.heap.size) ∧ w12.heap.size ≤ w13.heap.size) ∧ (w13).heap.size ≤ w14.heap.size) ∧ (w14).heap.size ≤ w15.heap.size) ∧ (w15).heap.size ≤ w16.heap.size) ∧ (w16).heap.size + 1 ≤ V2.heap.size) ∧ (V2).heap.size ≤ w17.heap.size) ∧ (w17).heap.size ≤ w18.heap.size) ∧ (w18).heap.size ≤ w19.heap.size) := ⟨Z.out, b.size⟩
  clear b
  obtain ⟨q0_0, q0_1, q0_2, q0_3, q0_4, q0_5, q0_6, q0_7, q0_8, q0_9, q0_10⟩ := OWB0.out.eleven
  obtain ⟨q1_0, q1_1, q1_2, q1_3, q1_4, q1_5, q1_6, q1_7, q1_8, q1_9, q1_10⟩ := OGB0.out.eleven
  obtain ⟨q2_0, q2_1, q2_2, q2_3, q2_4, q2_5, q2_6, q2_7, q2_8, q2_9, q2_10⟩ := OHB0.out.eleven
  go_wp2_with fail
  refine (kheldBoolS_any _ R1.length m0 m1 _ OG1.out.reads hy1 (by omega) (by omega) HM_m1.out).mono ?_
  rintro e w' ⟨rfl, hw⟩; obtain rfl := hw.symm
  clear q0_0 q0_1 q0_2 q0_3 q0_4 q0_5 q0_6 q0_7 q0_8 q0_9 q0_10 q1_0 q1_1 q1_2 q1_3 q1_4 q1_5 q1_6 q1_7 q1_8 q1_9 q1_10 q2_0 q2_1 q2_2 q2_3 q2_4 q2_5 q2_6 q2_7 q2_8 q2_9 q2_10
  go_wp2
  go_ret
  exact ⟨rfl, B.out⟩
end Go.Proofs.Ytdlkilacnnjglaa
