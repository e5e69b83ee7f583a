/-
  The law FnExactNewGreet answers true at every argument, where both sides tell alike.
-/
import Derived.Test.YtbpbhbflfhfcfaaKGreetEq
import Derived.Test.YtbpbhbflfhfcfaaKGreetHeld
import Derived.Test.YtbpbhbflfhfcfaaKGreetMark
import Derived.Test.YtbpbhbflfhfcfaaKOwnS
import Derived.Test.YtbpbhbflfhfcfaaBoxL11
import Derived.Deep.RegionWith
namespace Go.Proofs.Ytbpbhbflfhfcfaa
open Go.RowKit

set_option maxRecDepth 100000 in
set_option maxHeartbeats 16000000 in
theorem FnExactNewGreet_law  (w : World) (R0 : GrD) (hy0 : grTot R0 ≤ 1048576)
    (HS : ∀ (w : World), Calls Try.prog 25 #[] w fun e w' => ∃ u0, e = .returned (u0) ∧ GrOwn (Iv w.heap.size w'.heap.size) w' u0 R0 ∧ Below w.heap.size w w')
    (HI : ∀ (w : World), Calls Try.prog 26 #[] w fun e w' => ∃ u0, e = .returned (u0) ∧ GrOwn (Iv w.heap.size w'.heap.size) w' u0 R0 ∧ Below w.heap.size w w') :
    Calls Try.prog 4 #[] w fun e w' => e = .returned (.bool true) ∧ Below w.heap.size w w' := by
  have HS' := hid HS
  have HI' := hid HI
  clear HS HI
  have B : Hid (Below w.heap.size w w) := Below.refl _ _
  have Z : Hid (w.heap.size ≤ w.heap.size) := Nat.le_refl _
  go_enter Try.func4, Try.ntmps4
  have hYN0 : grTot R0 ≤ 1048576 := hy0
  have hYNN0 : grN R0 ≤ 4194304 := by unfold grTot at hy0; unfold grN; omega
  clear hy0
  go_wp2_with fail
  refine (HS'.out _).mono ?_
  rintro e w1 ⟨owu0, rfl, o0, b⟩
  replace B : Hid (Below w.heap.size w w1) := B.out.trans (b.mono B.out.size)
  replace Z : Hid ((w.heap.size ≤ w.heap.size) ∧ (w).heap.size ≤ w1.heap.size) := ⟨Z.out, b.size⟩
  clear b
  obtain ⟨owc0_a8, owc0_n8, owc0_k8, owc0_a9, owc0_n9, owc0_k9, owc0_a10, owc0_n10, owc0_k10, rfl⟩ := o0.form
  have OW0 := hid o0
  have OW0I : Hid (∀ g, (Iv w.heap.size w1.heap.size) g → w.heap.size ≤ g ∧ g < w1.heap.size) := fun g h => h
  clear o0
  have b : Below (w1).heap.size (w1) (w1.alloc (.cells #[.int .i64 R0.f0, .int .i64 R0.f1, .int .i64 R0.f2, .int .i64 R0.f3, .int .i64 R0.f4, .int .i64 R0.f5, .int .i64 R0.f6, .int .i64 R0.f7, .slice owc0_a8 owc0_n8 owc0_k8, .slice owc0_a9 owc0_n9 owc0_k9, .slice owc0_a10 owc0_n10 owc0_k10] 50)) := (Below.refl _ _).alloc (Nat.le_refl _) _
  replace OW0 := hid (OW0.out.below b)
  have OWB0 := hid (boxL_new (w1) [.int .i64 R0.f0, .int .i64 R0.f1, .int .i64 R0.f2, .int .i64 R0.f3, .int .i64 R0.f4, .int .i64 R0.f5, .int .i64 R0.f6, .int .i64 R0.f7, .slice owc0_a8 owc0_n8 owc0_k8, .slice owc0_a9 owc0_n9 owc0_k9, .slice owc0_a10 owc0_n10 owc0_k10] 50)
  replace B : Hid (Below w.heap.size w (w1.alloc (.cells #[.int .i64 R0.f0, .int .i64 R0.f1, .int .i64 R0.f2, .int .i64 R0.f3, .int .i64 R0.f4, .int .i64 R0.f5, .int .i64 R0.f6, .int .i64 R0.f7, .slice owc0_a8 owc0_n8 owc0_k8, .slice owc0_a9 owc0_n9 owc0_k9, .slice owc0_a10 owc0_n10 owc0_k10] 50))) := B.out.trans (b.mono B.out.size)
  replace Z : Hid (((w.heap.size ≤ w.heap.size) ∧ (w).heap.size ≤ w1.heap.size) ∧ (w1).heap.size + 1 ≤ (w1.alloc (.cells #[.int .i64 R0.f0, .int .i64 R0.f1, .int .i64 R0.f2, .int .i64 R0.f3, .int .i64 R0.f4, .int .i64 R0.f5, .int .i64 R0.f6, .int .i64 R0.f7, .slice owc0_a8 owc0_n8 owc0_k8, .slice owc0_a9 owc0_n9 owc0_k9, .slice owc0_a10 owc0_n10 owc0_k10] 50)).heap.size) := ⟨Z.out, by rw [World.size_alloc]; exact Nat.le_refl _⟩
  clear b
  obtain ⟨q0_0, q0_1, q0_2, q0_3, q0_4, q0_5, q0_6, q0_7, q0_8, q0_9, q0_10⟩ := OWB0.out.eleven
  go_wp2_with fail
  obtain ⟨V0, hV⟩ : ∃ V, V = w1.alloc (.cells #[.int .i64 R0.f0, .int .i64 R0.f1, .int .i64 R0.f2, .int .i64 R0.f3, .int .i64 R0.f4, .int .i64 R0.f5, .int .i64 R0.f6, .int .i64 R0.f7, .slice owc0_a8 owc0_n8 owc0_k8, .slice owc0_a9 owc0_n9 owc0_k9, .slice owc0_a10 owc0_n10 owc0_k10] 50) := ⟨_, rfl⟩
  rw [← hV] at B Z OW0 OWB0 ⊢
  clear hV
  refine (HI'.out _).mono ?_
  rintro e w2 ⟨ogu0, rfl, o0, b⟩
  clear q0_0 q0_1 q0_2 q0_3 q0_4 q0_5 q0_6 q0_7 q0_8 q0_9 q0_10
  replace OW0 := hid (OW0.out.below b)
  replace OWB0 := hid (OWB0.out.below b OWB0.out.lt)
  replace B : Hid (Below w.heap.size w w2) := B.out.trans (b.mono B.out.size)
  replace Z : Hid ((((w.heap.size ≤ w.heap.size) ∧ (w).heap.size ≤ w1.heap.size) ∧ (w1).heap.size + 1 ≤ V0.heap.size) ∧ (V0).heap.size ≤ w2.heap.size) := ⟨Z.out, b.size⟩
  clear b
  obtain ⟨ogc0_a8, ogc0_n8, ogc0_k8, ogc0_a9, ogc0_n9, ogc0_k9, ogc0_a10, ogc0_n10, ogc0_k10, rfl⟩ := o0.form
  have OG0 := hid o0
  have OG0I : Hid (∀ g, (Iv V0.heap.size w2.heap.size) g → V0.heap.size ≤ g ∧ g < w2.heap.size) := fun g h => h
  clear o0
  have b : Below (w2).heap.size (w2) (w2.alloc (.cells #[.int .i64 R0.f0, .int .i64 R0.f1, .int .i64 R0.f2, .int .i64 R0.f3, .int .i64 R0.f4, .int .i64 R0.f5, .int .i64 R0.f6, .int .i64 R0.f7, .slice ogc0_a8 ogc0_n8 ogc0_k8, .slice ogc0_a9 ogc0_n9 ogc0_k9, .slice ogc0_a10 ogc0_n10 ogc0_k10] 50)) := (Below.refl _ _).alloc (Nat.le_refl _) _
  replace OW0 := hid (OW0.out.below b)
  replace OG0 := hid (OG0.out.below b)
  replace OWB0 := hid (OWB0.out.below b OWB0.out.lt)
  have OGB0 := hid (boxL_new (w2) [.int .i64 R0.f0, .int .i64 R0.f1, .int .i64 R0.f2, .int .i64 R0.f3, .int .i64 R0.f4, .int .i64 R0.f5, .int .i64 R0.f6, .int .i64 R0.f7, .slice ogc0_a8 ogc0_n8 ogc0_k8, .slice ogc0_a9 ogc0_n9 ogc0_k9, .slice ogc0_a10 ogc0_n10 ogc0_k10] 50)
  replace B : Hid (Below w.heap.size w (w2.alloc (.cells #[.int .i64 R0.f0, .int .i64 R0.f1, .int .i64 R0.f2, .int .i64 R0.f3, .int .i64 R0.f4, .int .i64 R0.f5, .int .i64 R0.f6, .int .i64 R0.f7, .slice ogc0_a8 ogc0_n8 ogc0_k8, .slice ogc0_a9 ogc0_n9 ogc0_k9, .slice ogc0_a10 ogc0_n10 ogc0_k10] 50))) := B.out.trans (b.mono B.out.size)
  replace Z : Hid (((((w.heap.size ≤ w.heap.size) ∧ (w).heap.size ≤ w1.heap.size) ∧ (w1).heap.size + 1 ≤ V0.heap.size) ∧ (V0).heap.size ≤ w2.heap.size) ∧ (w2).heap.size + 1 ≤ (w2.alloc (.cells #[.int .i64 R0.f0, .int .i64 R0.f1, .int .i64 R0.f2, .int .i64 R0.f3, .int .i64 R0.f4, .int .i64 R0.f5, .int .i64 R0.f6, .int .i64 R0.f7, .slice ogc0_a8 ogc0_n8 ogc0_k8, .slice ogc0_a9 ogc0_n9 ogc0_k9, .slice ogc0_a10 ogc0_n10 ogc0_k10] 50)).heap.size) := ⟨Z.out, by rw [World.size_alloc]; exact Nat.le_refl _⟩
  clear b
  obtain ⟨q0_0, q0_1, q0_2, q0_3, q0_4, q0_5, q0_6, q0_7, q0_8, q0_9, q0_10⟩ := OWB0.out.eleven
  obtain ⟨q1_0, q1_1, q1_2, q1_3, q1_4, q1_5, q1_6, q1_7, q1_8, q1_9, q1_10⟩ := OGB0.out.eleven
  go_wp2_with fail
  obtain ⟨V1, hV⟩ : ∃ V, V = w2.alloc (.cells #[.int .i64 R0.f0, .int .i64 R0.f1, .int .i64 R0.f2, .int .i64 R0.f3, .int .i64 R0.f4, .int .i64 R0.f5, .int .i64 R0.f6, .int .i64 R0.f7, .slice ogc0_a8 ogc0_n8 ogc0_k8, .slice ogc0_a9 ogc0_n9 ogc0_k9, .slice ogc0_a10 ogc0_n10 ogc0_k10] 50) := ⟨_, rfl⟩
  rw [← hV] at B Z OW0 OG0 OWB0 OGB0 ⊢
  clear hV
  refine (eqGreet_same _ _ R0 _ OG0.out.reads OW0.out.reads).mono ?_
  rintro e w3 ⟨rfl, b⟩
  clear q0_0 q0_1 q0_2 q0_3 q0_4 q0_5 q0_6 q0_7 q0_8 q0_9 q0_10 q1_0 q1_1 q1_2 q1_3 q1_4 q1_5 q1_6 q1_7 q1_8 q1_9 q1_10
  replace OW0 := hid (OW0.out.below b)
  replace OG0 := hid (OG0.out.below b)
  replace OWB0 := hid (OWB0.out.below b OWB0.out.lt)
  replace OGB0 := hid (OGB0.out.below b OGB0.out.lt)
  replace B : Hid (Below w.heap.size w w3) := B.out.trans (b.mono B.out.size)
  replace Z : Hid ((((((w.heap.size ≤ w.heap.size) ∧ (w).heap.size ≤ w1.heap.size) ∧ (w1).heap.size + 1 ≤ V0.heap.size) ∧ (V0).heap.size ≤ w2.heap.size) ∧ (w2).heap.size + 1 ≤ V1.heap.size) ∧ (V1).heap.size ≤ w3.heap.size) := ⟨Z.out, b.size⟩
  clear b
  obtain ⟨q0_0, q0_1, q0_2, q0_3, q0_4, q0_5, q0_6, q0_7, q0_8, q0_9, q0_10⟩ := OWB0.out.eleven
  obtain ⟨q1_0, q1_1, q1_2, q1_3, q1_4, q1_5, q1_6, q1_7, q1_8, q1_9, q1_10⟩ := OGB0.out.eleven
  go_wp2_with fail
  obtain ⟨m0, hm, m0_0, m0_1⟩ : ∃ m : Int, m = 1 + (grN R0 : Nat) ∧ 0 ≤ m ∧ m ≤ 4500000 := ⟨_, rfl, by omega, by omega⟩
  have HM_m0 := hid hm
  clear hm
  have HIN : Hid (∀ g, (Iv V0.heap.size w2.heap.size) g → V0.heap.size ≤ g ∧ g < w3.heap.size) := fun g h => by have h1 : V0.heap.size ≤ g ∧ g < w2.heap.size := OG0I.out g h; have := Z.out; omega
  refine (markGreet_any (Iv V0.heap.size w2.heap.size) V0.heap.size _ R0 1 m0 _ OG0.out HIN.out (by have := Z.out; omega) hYN0 (by omega) (by omega) HM_m0.out).mono ?_
  rintro e w4 ⟨rfl, o, b, on⟩
  clear HIN
  clear q0_0 q0_1 q0_2 q0_3 q0_4 q0_5 q0_6 q0_7 q0_8 q0_9 q0_10 q1_0 q1_1 q1_2 q1_3 q1_4 q1_5 q1_6 q1_7 q1_8 q1_9 q1_10
  replace OW0 := hid (OW0.out.onlyS on (fun g g1 g2 => by have h1 : w.heap.size ≤ g ∧ g < w1.heap.size := (OW0I.out g g1); have h2 : V0.heap.size ≤ g ∧ g < w2.heap.size := (OG0I.out g g2); have := Z.out; omega))
  replace OG0 := hid o
  replace OWB0 := hid (OWB0.out.of_block (on _ OWB0.out.lt (fun g2 => by have h2 : V0.heap.size ≤ _ ∧ _ < w2.heap.size := OG0I.out _ g2; have := Z.out; omega)))
  replace OGB0 := hid (OGB0.out.of_block (on _ OGB0.out.lt (fun g2 => by have h2 : V0.heap.size ≤ _ ∧ _ < w2.heap.size := OG0I.out _ g2; have := Z.out; omega)))
  replace B : Hid (Below w.heap.size w w4) := B.out.trans (b.mono (by have := Z.out; omega))
  replace Z : Hid (((((((w.heap.size ≤ w.heap.size) ∧ (w).heap.size ≤ w1.heap.size) ∧ (w1).heap.size + 1 ≤ V0.heap.size) ∧ (V0).heap.size ≤ w2.heap.size) ∧ (w2).heap.size + 1 ≤ V1.heap.size) ∧ (V1).heap.size ≤ w3.heap.size) ∧ w3.heap.size ≤ w4.heap.size) := ⟨Z.out, b.size⟩
  clear o b on
  have hdm0 : decide (m0 < 0) = false := by rw [decide_eq_false_iff_not]; omega
  obtain ⟨q0_0, q0_1, q0_2, q0_3, q0_4, q0_5, q0_6, q0_7, q0_8, q0_9, q0_10⟩ := OWB0.out.eleven
  obtain ⟨q1_0, q1_1, q1_2, q1_3, q1_4, q1_5, q1_6, q1_7, q1_8, q1_9, q1_10⟩ := OGB0.out.eleven
  go_wp2_with fail
  refine (heldGreet_any _ R0 1 m0 _ OG0.out.reads hYN0 (by omega) (by omega) HM_m0.out).mono ?_
  rintro e w5 ⟨rfl, b⟩
  clear q0_0 q0_1 q0_2 q0_3 q0_4 q0_5 q0_6 q0_7 q0_8 q0_9 q0_10 q1_0 q1_1 q1_2 q1_3 q1_4 q1_5 q1_6 q1_7 q1_8 q1_9 q1_10
  replace OW0 := hid (OW0.out.below b)
  replace OG0 := hid (OG0.out.below b)
  replace OWB0 := hid (OWB0.out.below b OWB0.out.lt)
  replace OGB0 := hid (OGB0.out.below b OGB0.out.lt)
  replace B : Hid (Below w.heap.size w w5) := B.out.trans (b.mono B.out.size)
  replace Z : Hid ((((((((w.heap.size ≤ w.heap.size) ∧ (w).heap.size ≤ w1.heap.size) ∧ (w1).heap.size + 1 ≤ V0.heap.size) ∧ (V0).heap.size ≤ w2.heap.size) ∧ (w2).heap.size + 1 ≤ V1.heap.size) ∧ (V1).heap.size ≤ w3.heap.size) ∧ w3.heap.size ≤ w4.heap.size) ∧ (w4).heap.size ≤ w5.heap.size) := ⟨Z.out, b.size⟩
  clear b
  obtain ⟨q0_0, q0_1, q0_2, q0_3, q0_4, q0_5, q0_6, q0_7, q0_8, q0_9, q0_10⟩ := OWB0.out.eleven
  obtain ⟨q1_0, q1_1, q1_2, q1_3, q1_4, q1_5, q1_6, q1_7, q1_8, q1_9, q1_10⟩ := OGB0.out.eleven
  go_wp2_with fail
  refine (HI'.out _).mono ?_
  rintro e w6 ⟨ohu0, rfl, o0, b⟩
  clear q0_0 q0_1 q0_2 q0_3 q0_4 q0_5 q0_6 q0_7 q0_8 q0_9 q0_10 q1_0 q1_1 q1_2 q1_3 q1_4 q1_5 q1_6 q1_7 q1_8 q1_9 q1_10
  replace OW0 := hid (OW0.out.below b)
  replace OG0 := hid (OG0.out.below b)
  replace OWB0 := hid (OWB0.out.below b OWB0.out.lt)
  replace OGB0 := hid (OGB0.out.below b OGB0.out.lt)
  replace B : Hid (Below w.heap.size w w6) := B.out.trans (b.mono B.out.size)
  replace Z : Hid (((((((((w.heap.size ≤ w.heap.size) ∧ (w).heap.size ≤ w1.heap.size) ∧ (w1).heap.size + 1 ≤ V0.heap.size) ∧ (V0).heap.size ≤ w2.heap.size) ∧ (w2).heap.size + 1 ≤ V1.heap.size) ∧ (V1).heap.size ≤ w3.heap.size) ∧ w3.heap.size ≤ w4.heap.size) ∧ (w4).heap.size ≤ w5.heap.size) ∧ (w5).heap.size ≤ w6.heap.size) := ⟨Z.out, b.size⟩
  clear b
  obtain ⟨ohc0_a8, ohc0_n8, ohc0_k8, ohc0_a9, ohc0_n9, ohc0_k9, ohc0_a10, ohc0_n10, ohc0_k10, rfl⟩ := o0.form
  have OH0 := hid o0
  have OH0I : Hid (∀ g, (Iv w5.heap.size w6.heap.size) g → w5.heap.size ≤ g ∧ g < w6.heap.size) := fun g h => h
  clear o0
  have b : Below (w6).heap.size (w6) (w6.alloc (.cells #[.int .i64 R0.f0, .int .i64 R0.f1, .int .i64 R0.f2, .int .i64 R0.f3, .int .i64 R0.f4, .int .i64 R0.f5, .int .i64 R0.f6, .int .i64 R0.f7, .slice ohc0_a8 ohc0_n8 ohc0_k8, .slice ohc0_a9 ohc0_n9 ohc0_k9, .slice ohc0_a10 ohc0_n10 ohc0_k10] 50)) := (Below.refl _ _).alloc (Nat.le_refl _) _
  replace OW0 := hid (OW0.out.below b)
  replace OG0 := hid (OG0.out.below b)
  replace OH0 := hid (OH0.out.below b)
  replace OWB0 := hid (OWB0.out.below b OWB0.out.lt)
  replace OGB0 := hid (OGB0.out.below b OGB0.out.lt)
  have OHB0 := hid (boxL_new (w6) [.int .i64 R0.f0, .int .i64 R0.f1, .int .i64 R0.f2, .int .i64 R0.f3, .int .i64 R0.f4, .int .i64 R0.f5, .int .i64 R0.f6, .int .i64 R0.f7, .slice ohc0_a8 ohc0_n8 ohc0_k8, .slice ohc0_a9 ohc0_n9 ohc0_k9, .slice ohc0_a10 ohc0_n10 ohc0_k10] 50)
  replace B : Hid (Below w.heap.size w (w6.alloc (.cells #[.int .i64 R0.f0, .int .i64 R0.f1, .int .i64 R0.f2, .int .i64 R0.f3, .int .i64 R0.f4, .int .i64 R0.f5, .int .i64 R0.f6, .int .i64 R0.f7, .slice ohc0_a8 ohc0_n8 ohc0_k8, .slice ohc0_a9 ohc0_n9 ohc0_k9, .slice ohc0_a10 ohc0_n10 ohc0_k10] 50))) := B.out.trans (b.mono B.out.size)
  replace Z : Hid ((((((((((w.heap.size ≤ w.heap.size) ∧ (w).heap.size ≤ w1.heap.size) ∧ (w1).heap.size + 1 ≤ V0.heap.size) ∧ (V0).heap.size ≤ w2.heap.size) ∧ (w2).heap.size + 1 ≤ V1.heap.size) ∧ (V1).heap.size ≤ w3.heap.size) ∧ w3.heap.size ≤ w4.heap.size) ∧ (w4).heap.size ≤ w5.heap.size) ∧ (w5).heap.size ≤ w6.heap.size) ∧ (w6).heap.size + 1 ≤ (w6.alloc (.cells #[.int .i64 R0.f0, .int .i64 R0.f1, .int .i64 R0.f2, .int .i64 R0.f3, .int .i64 R0.f4, .int .i64 R0.f5, .int .i64 R0.f6, .int .i64 R0.f7, .slice ohc0_a8 ohc0_n8 ohc0_k8, .slice ohc0_a9 ohc0_n9 ohc0_k9, .slice ohc0_a10 ohc0_n10 ohc0_k10] 50)).heap.size) := ⟨Z.out, by rw [World.size_alloc]; exact Nat.le_refl _⟩
  clear b
  obtain ⟨q0_0, q0_1, q0_2, q0_3, q0_4, q0_5, q0_6, q0_7, q0_8, q0_9, q0_10⟩ := OWB0.out.eleven
  obtain ⟨q1_0, q1_1, q1_2, q1_3, q1_4, q1_5, q1_6, q1_7, q1_8, q1_9, q1_10⟩ := OGB0.out.eleven
  obtain ⟨q2_0, q2_1, q2_2, q2_3, q2_4, q2_5, q2_6, q2_7, q2_8, q2_9, q2_10⟩ := OHB0.out.eleven
  go_wp2_with fail
  obtain ⟨V2, hV⟩ : ∃ V, V = w6.alloc (.cells #[.int .i64 R0.f0, .int .i64 R0.f1, .int .i64 R0.f2, .int .i64 R0.f3, .int .i64 R0.f4, .int .i64 R0.f5, .int .i64 R0.f6, .int .i64 R0.f7, .slice ohc0_a8 ohc0_n8 ohc0_k8, .slice ohc0_a9 ohc0_n9 ohc0_k9, .slice ohc0_a10 ohc0_n10 ohc0_k10] 50) := ⟨_, rfl⟩
  rw [← hV] at B Z OW0 OG0 OH0 OWB0 OGB0 OHB0 ⊢
  clear hV
  refine (eqGreet_same _ _ R0 _ OH0.out.reads OW0.out.reads).mono ?_
  rintro e w7 ⟨rfl, b⟩
  clear q0_0 q0_1 q0_2 q0_3 q0_4 q0_5 q0_6 q0_7 q0_8 q0_9 q0_10 q1_0 q1_1 q1_2 q1_3 q1_4 q1_5 q1_6 q1_7 q1_8 q1_9 q1_10 q2_0 q2_1 q2_2 q2_3 q2_4 q2_5 q2_6 q2_7 q2_8 q2_9 q2_10
  replace OW0 := hid (OW0.out.below b)
  replace OG0 := hid (OG0.out.below b)
  replace OH0 := hid (OH0.out.below b)
  replace OWB0 := hid (OWB0.out.below b OWB0.out.lt)
  replace OGB0 := hid (OGB0.out.below b OGB0.out.lt)
  replace OHB0 := hid (OHB0.out.below b OHB0.out.lt)
  replace B : Hid (Below w.heap.size w w7) := B.out.trans (b.mono B.out.size)
  replace Z : Hid (((((((((((w.heap.size ≤ w.heap.size) ∧ (w).heap.size ≤ w1.heap.size) ∧ (w1).heap.size + 1 ≤ V0.heap.size) ∧ (V0).heap.size ≤ w2.heap.size) ∧ (w2).heap.size + 1 ≤ V1.heap.size) ∧ (V1).heap.size ≤ w3.heap.size) ∧ w3.heap.size ≤ w4.heap.size) ∧ (w4).heap.size ≤ w5.heap.size) ∧ (w5).heap.size ≤ w6.heap.size) ∧ (w6).heap.size + 1 ≤ V2.heap.size) ∧ (V2).heap.size ≤ w7.heap.size) := ⟨Z.out, b.size⟩
  clear b
  obtain ⟨q0_0, q0_1, q0_2, q0_3, q0_4, q0_5, q0_6, q0_7, q0_8, q0_9, q0_10⟩ := OWB0.out.eleven
  obtain ⟨q1_0, q1_1, q1_2, q1_3, q1_4, q1_5, q1_6, q1_7, q1_8, q1_9, q1_10⟩ := OGB0.out.eleven
  obtain ⟨q2_0, q2_1, q2_2, q2_3, q2_4, q2_5, q2_6, q2_7, q2_8, q2_9, q2_10⟩ := OHB0.out.eleven
  go_wp2_with fail
  refine (heldGreet_any _ R0 1 m0 _ OG0.out.reads hYN0 (by omega) (by omega) HM_m0.out).mono ?_
  rintro e w8 ⟨rfl, b⟩
  clear q0_0 q0_1 q0_2 q0_3 q0_4 q0_5 q0_6 q0_7 q0_8 q0_9 q0_10 q1_0 q1_1 q1_2 q1_3 q1_4 q1_5 q1_6 q1_7 q1_8 q1_9 q1_10 q2_0 q2_1 q2_2 q2_3 q2_4 q2_5 q2_6 q2_7 q2_8 q2_9 q2_10
  replace OW0 := hid (OW0.out.below b)
  replace OG0 := hid (OG0.out.below b)
  replace OH0 := hid (OH0.out.below b)
  replace OWB0 := hid (OWB0.out.below b OWB0.out.lt)
  replace OGB0 := hid (OGB0.out.below b OGB0.out.lt)
  replace OHB0 := hid (OHB0.out.below b OHB0.out.lt)
  replace B : Hid (Below w.heap.size w w8) := B.out.trans (b.mono B.out.size)
  replace Z : Hid ((((((((((((w.heap.size ≤ w.heap.size) ∧ (w).heap.size ≤ w1.heap.size) ∧ (w1).heap.size + 1 ≤ V0.heap.size) ∧ (V0).heap.size ≤ w2.heap.size) ∧ (w2).heap.size + 1 ≤ V1.heap.size) ∧ (V1).heap.size ≤ w3.heap.size) ∧ w3.heap.size ≤ w4.heap.size) ∧ (w4).heap.size ≤ w5.heap.size) ∧ (w5).heap.size ≤ w6.heap.size) ∧ (w6).heap.size + 1 ≤ V2.heap.size) ∧ (V2).heap.size ≤ w7.heap.size) ∧ (w7).heap.size ≤ w8.heap.size) := ⟨Z.out, b.size⟩
  clear b
  go_wp2
  go_ret
  exact ⟨rfl, B.out⟩
end Go.Proofs.Ytbpbhbflfhfcfaa
