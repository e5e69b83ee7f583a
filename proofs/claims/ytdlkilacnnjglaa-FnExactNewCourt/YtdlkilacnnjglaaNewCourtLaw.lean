/-
  The law FnExactNewCourt answers true at every argument, where both sides tell alike.
-/
import Derived.Test.YtdlkilacnnjglaaKCourtEq
import Derived.Test.YtdlkilacnnjglaaKCourtHeld
import Derived.Test.YtdlkilacnnjglaaKCourtMark
import Derived.Test.YtdlkilacnnjglaaKIntArg
import Derived.Test.YtdlkilacnnjglaaKIntEq
import Derived.Test.YtdlkilacnnjglaaKIntMk1
import Derived.Test.YtdlkilacnnjglaaKIntToS
import Derived.Test.YtdlkilacnnjglaaKOwnS
import Derived.Deep.RegionWith
namespace Go.Proofs.Ytdlkilacnnjglaa
open Go.RowKit

set_option maxRecDepth 100000 in
set_option maxHeartbeats 16000000 in
theorem FnExactNewCourt_law (a0 : Option Addr) (len0 cap0 : Nat) (D0 : List Int) (w : World) (h0 : KArg w a0 len0 cap0 D0) (R0 : CoD) (hy0 : coTot R0 ≤ 1048576) (r1 : Bool)
    (HS : ∀ (v : Value) (w : World), KReads w v D0 → Calls Try.prog 9 #[v] w fun e w' => ∃ u0, e = .returned (.tuple #[u0, .bool r1]) ∧ CoOwn (Iv w.heap.size w'.heap.size) w' u0 R0 ∧ Below w.heap.size w w')
    (HI : ∀ (v : Value) (w : World), KReads w v D0 → Calls Try.prog 11 #[v] w fun e w' => ∃ u0, e = .returned (.tuple #[u0, .bool r1]) ∧ CoOwn (Iv w.heap.size w'.heap.size) w' u0 R0 ∧ Below w.heap.size w w') :
    Calls Try.prog 3 #[.slice a0 len0 cap0] w fun e w' => e = .returned (.bool true) ∧ Below w.heap.size w w' := by
  have HS' := hid HS
  have HI' := hid HI
  clear HS HI
  by_cases hl0 : (len0 : Int) ≤ 1048576
  rotate_left
  · have hm : len0 ≤ maxLen := Nat.le_trans h0.2.1 h0.2.2.1
    unfold maxLen at hm
    have hd : decide ((len0 : Int) > 1048576) = true := by simp; omega
    clear HS' HI' h0
    go_enter Try.func3, Try.ntmps3
    go_wp2
    go_ret
    exact ⟨rfl, Below.refl _ _⟩
  have hdI : decide ((len0 : Int) > 1048576) = false := by simp; omega
  have HR := hid (h0.reads (by omega))
  have hN0 : D0.length ≤ 1048576 := by rw [h0.1]; omega
  clear h0
  have B : Hid (Below w.heap.size w w) := Below.refl _ _
  have Z : Hid (w.heap.size ≤ w.heap.size) := Nat.le_refl _
  go_enter Try.func3, Try.ntmps3
  have hYN0 : coTot R0 ≤ 1048576 := hy0
  have hYNN0 : coN R0 ≤ 4194304 := by unfold coTot at hy0; unfold coN; omega
  clear hy0
  go_wp2_with fail
  refine (ktoIntS_any _ D0 _ (HR.out.below B.out) hN0).mono ?_
  rintro e w1 ⟨tw1, rfl, o, b⟩
  replace B : Hid (Below w.heap.size w w1) := B.out.trans (b.mono B.out.size)
  replace Z : Hid ((w.heap.size ≤ w.heap.size) ∧ (w).heap.size ≤ w1.heap.size) := ⟨Z.out, b.size⟩
  clear b
  have A0 := hid o.inS
  clear o
  go_wp2_with fail
  refine (HS'.out tw1 _ A0.out.reads).mono ?_
  rintro e w2 ⟨owu0, rfl, o0, b⟩
  replace A0 := hid (A0.out.below b)
  replace B : Hid (Below w.heap.size w w2) := B.out.trans (b.mono B.out.size)
  replace Z : Hid (((w.heap.size ≤ w.heap.size) ∧ (w).heap.size ≤ w1.heap.size) ∧ (w1).heap.size ≤ w2.heap.size) := ⟨Z.out, b.size⟩
  clear b
  clear A0
  obtain ⟨owc0_a1, owc0_n1, owc0_k1, owc0_a2, owc0_n2, owc0_k2, rfl⟩ := o0.form
  have OW0 := hid o0
  have OW0I : Hid (∀ g, (Iv w1.heap.size w2.heap.size) g → w1.heap.size ≤ g ∧ g < w2.heap.size) := fun g h => h
  clear o0
  have b : Below (w2).heap.size (w2) (w2.alloc (.cells #[.int .i64 R0.f0, .slice owc0_a1 owc0_n1 owc0_k1, .slice owc0_a2 owc0_n2 owc0_k2] 26)) := (Below.refl _ _).alloc (Nat.le_refl _) _
  replace OW0 := hid (OW0.out.below b)
  have OWB0 := hid (boxL_new (w2) [.int .i64 R0.f0, .slice owc0_a1 owc0_n1 owc0_k1, .slice owc0_a2 owc0_n2 owc0_k2] 26)
  replace B : Hid (Below w.heap.size w (w2.alloc (.cells #[.int .i64 R0.f0, .slice owc0_a1 owc0_n1 owc0_k1, .slice owc0_a2 owc0_n2 owc0_k2] 26))) := B.out.trans (b.mono B.out.size)
  replace Z : Hid ((((w.heap.size ≤ w.heap.size) ∧ (w).heap.size ≤ w1.heap.size) ∧ (w1).heap.size ≤ w2.heap.size) ∧ (w2).heap.size + 1 ≤ (w2.alloc (.cells #[.int .i64 R0.f0, .slice owc0_a1 owc0_n1 owc0_k1, .slice owc0_a2 owc0_n2 owc0_k2] 26)).heap.size) := ⟨Z.out, by rw [World.size_alloc]; exact Nat.le_refl _⟩
  clear b
  obtain ⟨q0_0, q0_1, q0_2⟩ := OWB0.out.three
  go_wp2_with fail
  obtain ⟨V0, hV⟩ : ∃ V, V = w2.alloc (.cells #[.int .i64 R0.f0, .slice owc0_a1 owc0_n1 owc0_k1, .slice owc0_a2 owc0_n2 owc0_k2] 26) := ⟨_, rfl⟩
  rw [← hV] at B Z OW0 OWB0 ⊢
  clear hV
  refine (ktoIntS_any _ D0 _ (HR.out.below B.out) hN0).mono ?_
  rintro e w3 ⟨tw3, rfl, o, b⟩
  clear q0_0 q0_1 q0_2
  replace OW0 := hid (OW0.out.below b)
  replace OWB0 := hid (OWB0.out.below b OWB0.out.lt)
  replace B : Hid (Below w.heap.size w w3) := B.out.trans (b.mono B.out.size)
  replace Z : Hid (((((w.heap.size ≤ w.heap.size) ∧ (w).heap.size ≤ w1.heap.size) ∧ (w1).heap.size ≤ w2.heap.size) ∧ (w2).heap.size + 1 ≤ V0.heap.size) ∧ (V0).heap.size ≤ w3.heap.size) := ⟨Z.out, b.size⟩
  clear b
  have X0 := hid o.inS
  clear o
  obtain ⟨q0_0, q0_1, q0_2⟩ := OWB0.out.three
  go_wp2_with fail
  refine (HI'.out _ _ X0.out.reads).mono ?_
  rintro e w4 ⟨ogu0, rfl, o0, b⟩
  clear q0_0 q0_1 q0_2
  replace OW0 := hid (OW0.out.below b)
  replace X0 := hid (X0.out.below b)
  replace OWB0 := hid (OWB0.out.below b OWB0.out.lt)
  replace B : Hid (Below w.heap.size w w4) := B.out.trans (b.mono B.out.size)
  replace Z : Hid ((((((w.heap.size ≤ w.heap.size) ∧ (w).heap.size ≤ w1.heap.size) ∧ (w1).heap.size ≤ w2.heap.size) ∧ (w2).heap.size + 1 ≤ V0.heap.size) ∧ (V0).heap.size ≤ w3.heap.size) ∧ (w3).heap.size ≤ w4.heap.size) := ⟨Z.out, b.size⟩
  clear b
  obtain ⟨ogc0_a1, ogc0_n1, ogc0_k1, ogc0_a2, ogc0_n2, ogc0_k2, rfl⟩ := o0.form
  have OG0 := hid o0
  have OG0I : Hid (∀ g, (Iv w3.heap.size w4.heap.size) g → w3.heap.size ≤ g ∧ g < w4.heap.size) := fun g h => h
  clear o0
  have b : Below (w4).heap.size (w4) (w4.alloc (.cells #[.int .i64 R0.f0, .slice ogc0_a1 ogc0_n1 ogc0_k1, .slice ogc0_a2 ogc0_n2 ogc0_k2] 26)) := (Below.refl _ _).alloc (Nat.le_refl _) _
  replace OW0 := hid (OW0.out.below b)
  replace X0 := hid (X0.out.below b)
  replace OG0 := hid (OG0.out.below b)
  replace OWB0 := hid (OWB0.out.below b OWB0.out.lt)
  have OGB0 := hid (boxL_new (w4) [.int .i64 R0.f0, .slice ogc0_a1 ogc0_n1 ogc0_k1, .slice ogc0_a2 ogc0_n2 ogc0_k2] 26)
  replace B : Hid (Below w.heap.size w (w4.alloc (.cells #[.int .i64 R0.f0, .slice ogc0_a1 ogc0_n1 ogc0_k1, .slice ogc0_a2 ogc0_n2 ogc0_k2] 26))) := B.out.trans (b.mono B.out.size)
  replace Z : Hid (((((((w.heap.size ≤ w.heap.size) ∧ (w).heap.size ≤ w1.heap.size) ∧ (w1).heap.size ≤ w2.heap.size) ∧ (w2).heap.size + 1 ≤ V0.heap.size) ∧ (V0).heap.size ≤ w3.heap.size) ∧ (w3).heap.size ≤ w4.heap.size) ∧ (w4).heap.size + 1 ≤ (w4.alloc (.cells #[.int .i64 R0.f0, .slice ogc0_a1 ogc0_n1 ogc0_k1, .slice ogc0_a2 ogc0_n2 ogc0_k2] 26)).heap.size) := ⟨Z.out, by rw [World.size_alloc]; exact Nat.le_refl _⟩
  clear b
  obtain ⟨q0_0, q0_1, q0_2⟩ := OWB0.out.three
  obtain ⟨q1_0, q1_1, q1_2⟩ := OGB0.out.three
  go_wp2_with fail
  obtain ⟨V1, hV⟩ : ∃ V, V = w4.alloc (.cells #[.int .i64 R0.f0, .slice ogc0_a1 ogc0_n1 ogc0_k1, .slice ogc0_a2 ogc0_n2 ogc0_k2] 26) := ⟨_, rfl⟩
  rw [← hV] at B Z OW0 X0 OG0 OWB0 OGB0 ⊢
  clear hV
  refine (eqCourt_same _ _ R0 _ OG0.out.reads OW0.out.reads).mono ?_
  rintro e w5 ⟨rfl, b⟩
  clear q0_0 q0_1 q0_2 q1_0 q1_1 q1_2
  replace OW0 := hid (OW0.out.below b)
  replace X0 := hid (X0.out.below b)
  replace OG0 := hid (OG0.out.below b)
  replace OWB0 := hid (OWB0.out.below b OWB0.out.lt)
  replace OGB0 := hid (OGB0.out.below b OGB0.out.lt)
  replace B : Hid (Below w.heap.size w w5) := B.out.trans (b.mono B.out.size)
  replace Z : Hid ((((((((w.heap.size ≤ w.heap.size) ∧ (w).heap.size ≤ w1.heap.size) ∧ (w1).heap.size ≤ w2.heap.size) ∧ (w2).heap.size + 1 ≤ V0.heap.size) ∧ (V0).heap.size ≤ w3.heap.size) ∧ (w3).heap.size ≤ w4.heap.size) ∧ (w4).heap.size + 1 ≤ V1.heap.size) ∧ (V1).heap.size ≤ w5.heap.size) := ⟨Z.out, b.size⟩
  clear b
  obtain ⟨q0_0, q0_1, q0_2⟩ := OWB0.out.three
  obtain ⟨q1_0, q1_1, q1_2⟩ := OGB0.out.three
  go_wp2_with fail
  refine (ktoIntS_any _ D0 _ (HR.out.below B.out) hN0).mono ?_
  rintro e w6 ⟨tw6, rfl, o, b⟩
  clear q0_0 q0_1 q0_2 q1_0 q1_1 q1_2
  replace OW0 := hid (OW0.out.below b)
  replace X0 := hid (X0.out.below b)
  replace OG0 := hid (OG0.out.below b)
  replace OWB0 := hid (OWB0.out.below b OWB0.out.lt)
  replace OGB0 := hid (OGB0.out.below b OGB0.out.lt)
  replace B : Hid (Below w.heap.size w w6) := B.out.trans (b.mono B.out.size)
  replace Z : Hid (((((((((w.heap.size ≤ w.heap.size) ∧ (w).heap.size ≤ w1.heap.size) ∧ (w1).heap.size ≤ w2.heap.size) ∧ (w2).heap.size + 1 ≤ V0.heap.size) ∧ (V0).heap.size ≤ w3.heap.size) ∧ (w3).heap.size ≤ w4.heap.size) ∧ (w4).heap.size + 1 ≤ V1.heap.size) ∧ (V1).heap.size ≤ w5.heap.size) ∧ (w5).heap.size ≤ w6.heap.size) := ⟨Z.out, b.size⟩
  clear b
  have A1 := hid o.inS
  clear o
  obtain ⟨q0_0, q0_1, q0_2⟩ := OWB0.out.three
  obtain ⟨q1_0, q1_1, q1_2⟩ := OGB0.out.three
  go_wp2_with fail
  refine (keqIntS_same _ _ D0 _ X0.out.reads A1.out.reads).mono ?_
  rintro e w7 ⟨rfl, b⟩
  clear q0_0 q0_1 q0_2 q1_0 q1_1 q1_2
  replace OW0 := hid (OW0.out.below b)
  replace X0 := hid (X0.out.below b)
  replace OG0 := hid (OG0.out.below b)
  replace A1 := hid (A1.out.below b)
  replace OWB0 := hid (OWB0.out.below b OWB0.out.lt)
  replace OGB0 := hid (OGB0.out.below b OGB0.out.lt)
  replace B : Hid (Below w.heap.size w w7) := B.out.trans (b.mono B.out.size)
  replace Z : Hid ((((((((((w.heap.size ≤ w.heap.size) ∧ (w).heap.size ≤ w1.heap.size) ∧ (w1).heap.size ≤ w2.heap.size) ∧ (w2).heap.size + 1 ≤ V0.heap.size) ∧ (V0).heap.size ≤ w3.heap.size) ∧ (w3).heap.size ≤ w4.heap.size) ∧ (w4).heap.size + 1 ≤ V1.heap.size) ∧ (V1).heap.size ≤ w5.heap.size) ∧ (w5).heap.size ≤ w6.heap.size) ∧ (w6).heap.size ≤ w7.heap.size) := ⟨Z.out, b.size⟩
  clear b
  clear A1
  obtain ⟨q0_0, q0_1, q0_2⟩ := OWB0.out.three
  obtain ⟨q1_0, q1_1, q1_2⟩ := OGB0.out.three
  go_wp2_with fail
  obtain ⟨mx, hm, mx_0, mx_1⟩ : ∃ m : Int, m = 1 + (D0.length : Nat) ∧ 0 ≤ m ∧ m ≤ 4500000 := ⟨_, rfl, by omega, by omega⟩
  have HM_mx := hid hm
  clear hm
  obtain ⟨l_, e_, ko, hS⟩ := X0.out
  have KO := hid ko
  have HSS := hid hS
  clear ko hS
  refine (kmarkIntS_any l_ e_ _ D0 1 mx _ KO.out hN0 (by omega) (by omega) HM_mx.out).mono ?_
  rintro e w8 ⟨rfl, ok, bk, onk⟩
  have on : OnlyS (Iv V0.heap.size w3.heap.size) w7 w8 := KOwnS.on HSS.out onk
  have o : KOwnS (Iv V0.heap.size w3.heap.size) w8 tw3 (kmarks 1 D0.length) := ⟨l_, e_, ok, HSS.out⟩
  have b : Below V0.heap.size w7 w8 := KOwnS.frame KO.out HSS.out (fun g h => h.1) (by have := Z.out; omega) bk onk
  clear ok bk onk KO HSS
  clear q0_0 q0_1 q0_2 q1_0 q1_1 q1_2
  replace OW0 := hid (OW0.out.onlyS on (fun g g1 g2 => by have h1 : w1.heap.size ≤ g ∧ g < w2.heap.size := (OW0I.out g g1); have h2 : V0.heap.size ≤ g ∧ g < w3.heap.size := g2; have := Z.out; omega))
  replace X0 := hid o
  replace OG0 := hid (OG0.out.onlyS on (fun g g1 g2 => by have h1 : w3.heap.size ≤ g ∧ g < w4.heap.size := (OG0I.out g g1); have h2 : V0.heap.size ≤ g ∧ g < w3.heap.size := g2; have := Z.out; omega))
  replace OWB0 := hid (OWB0.out.of_block (on _ OWB0.out.lt (fun g2 => by have h2 : V0.heap.size ≤ _ ∧ _ < w3.heap.size := g2; have := Z.out; omega)))
  replace OGB0 := hid (OGB0.out.of_block (on _ OGB0.out.lt (fun g2 => by have h2 : V0.heap.size ≤ _ ∧ _ < w3.heap.size := g2; have := Z.out; omega)))
  replace B : Hid (Below w.heap.size w w8) := B.out.trans (b.mono (by have := Z.out; omega))
  replace Z : Hid (((((((((((w.heap.size ≤ w.heap.size) ∧ (w).heap.size ≤ w1.heap.size) ∧ (w1).heap.size ≤ w2.heap.size) ∧ (w2).heap.size + 1 ≤ V0.heap.size) ∧ (V0).heap.size ≤ w3.heap.size) ∧ (w3).heap.size ≤ w4.heap.size) ∧ (w4).heap.size + 1 ≤ V1.heap.size) ∧ (V1).heap.size ≤ w5.heap.size) ∧ (w5).heap.size ≤ w6.heap.size) ∧ (w6).heap.size ≤ w7.heap.size) ∧ w7.heap.size ≤ w8.heap.size) := ⟨Z.out, b.size⟩
  clear o b on
  have hdx : decide (mx < 0) = false := by rw [decide_eq_false_iff_not]; omega
  obtain ⟨q0_0, q0_1, q0_2⟩ := OWB0.out.three
  obtain ⟨q1_0, q1_1, q1_2⟩ := OGB0.out.three
  go_wp2_with fail
  refine (eqCourt_same _ _ R0 _ OG0.out.reads OW0.out.reads).mono ?_
  rintro e w9 ⟨rfl, b⟩
  clear q0_0 q0_1 q0_2 q1_0 q1_1 q1_2
  replace OW0 := hid (OW0.out.below b)
  replace X0 := hid (X0.out.below b)
  replace OG0 := hid (OG0.out.below b)
  replace OWB0 := hid (OWB0.out.below b OWB0.out.lt)
  replace OGB0 := hid (OGB0.out.below b OGB0.out.lt)
  replace B : Hid (Below w.heap.size w w9) := B.out.trans (b.mono B.out.size)
  replace Z : Hid ((((((((((((w.heap.size ≤ w.heap.size) ∧ (w).heap.size ≤ w1.heap.size) ∧ (w1).heap.size ≤ w2.heap.size) ∧ (w2).heap.size + 1 ≤ V0.heap.size) ∧ (V0).heap.size ≤ w3.heap.size) ∧ (w3).heap.size ≤ w4.heap.size) ∧ (w4).heap.size + 1 ≤ V1.heap.size) ∧ (V1).heap.size ≤ w5.heap.size) ∧ (w5).heap.size ≤ w6.heap.size) ∧ (w6).heap.size ≤ w7.heap.size) ∧ w7.heap.size ≤ w8.heap.size) ∧ (w8).heap.size ≤ w9.heap.size) := ⟨Z.out, b.size⟩
  clear b
  clear X0
  obtain ⟨q0_0, q0_1, q0_2⟩ := OWB0.out.three
  obtain ⟨q1_0, q1_1, q1_2⟩ := OGB0.out.three
  go_wp2_with fail
  obtain ⟨m0, hm, m0_0, m0_1⟩ : ∃ m : Int, m = 1 + (coN R0 : Nat) ∧ 0 ≤ m ∧ m ≤ 4500000 := ⟨_, rfl, by omega, by omega⟩
  have HM_m0 := hid hm
  clear hm
  have HIN : Hid (∀ g, (Iv w3.heap.size w4.heap.size) g → w3.heap.size ≤ g ∧ g < w9.heap.size) := fun g h => by have h1 : w3.heap.size ≤ g ∧ g < w4.heap.size := OG0I.out g h; have := Z.out; omega
  refine (markCourt_any (Iv w3.heap.size w4.heap.size) w3.heap.size _ R0 1 m0 _ OG0.out HIN.out (by have := Z.out; omega) hYN0 (by omega) (by omega) HM_m0.out).mono ?_
  rintro e w10 ⟨rfl, o, b, on⟩
  clear HIN
  clear q0_0 q0_1 q0_2 q1_0 q1_1 q1_2
  replace OW0 := hid (OW0.out.onlyS on (fun g g1 g2 => by have h1 : w1.heap.size ≤ g ∧ g < w2.heap.size := (OW0I.out g g1); have h2 : w3.heap.size ≤ g ∧ g < w4.heap.size := (OG0I.out g g2); have := Z.out; omega))
  replace OG0 := hid o
  replace OWB0 := hid (OWB0.out.of_block (on _ OWB0.out.lt (fun g2 => by have h2 : w3.heap.size ≤ _ ∧ _ < w4.heap.size := OG0I.out _ g2; have := Z.out; omega)))
  replace OGB0 := hid (OGB0.out.of_block (on _ OGB0.out.lt (fun g2 => by have h2 : w3.heap.size ≤ _ ∧ _ < w4.heap.size := OG0I.out _ g2; have := Z.out; omega)))
  replace B : Hid (Below w.heap.size w w10) := B.out.trans (b.mono (by have := Z.out; omega))
  replace Z : Hid (((((((((((((w.heap.size ≤ w.heap.size) ∧ (w).heap.size ≤ w1.heap.size) ∧ (w1).heap.size ≤ w2.heap.size) ∧ (w2).heap.size + 1 ≤ V0.heap.size) ∧ (V0).heap.size ≤ w3.heap.size) ∧ (w3).heap.size ≤ w4.heap.size) ∧ (w4).heap.size + 1 ≤ V1.heap.size) ∧ (V1).heap.size ≤ w5.heap.size) ∧ (w5).heap.size ≤ w6.heap.size) ∧ (w6).heap.size ≤ w7.heap.size) ∧ w7.heap.size ≤ w8.heap.size) ∧ (w8).heap.size ≤ w9.heap.size) ∧ w9.heap.size ≤ w10.heap.size) := ⟨Z.out, b.size⟩
  clear o b on
  have hdm0 : decide (m0 < 0) = false := by rw [decide_eq_false_iff_not]; omega
  obtain ⟨q0_0, q0_1, q0_2⟩ := OWB0.out.three
  obtain ⟨q1_0, q1_1, q1_2⟩ := OGB0.out.three
  go_wp2_with fail
  refine (heldCourt_any _ R0 1 m0 _ OG0.out.reads hYN0 (by omega) (by omega) HM_m0.out).mono ?_
  rintro e w11 ⟨rfl, b⟩
  clear q0_0 q0_1 q0_2 q1_0 q1_1 q1_2
  replace OW0 := hid (OW0.out.below b)
  replace OG0 := hid (OG0.out.below b)
  replace OWB0 := hid (OWB0.out.below b OWB0.out.lt)
  replace OGB0 := hid (OGB0.out.below b OGB0.out.lt)
  replace B : Hid (Below w.heap.size w w11) := B.out.trans (b.mono B.out.size)
  replace Z : Hid ((((((((((((((w.heap.size ≤ w.heap.size) ∧ (w).heap.size ≤ w1.heap.size) ∧ (w1).heap.size ≤ w2.heap.size) ∧ (w2).heap.size + 1 ≤ V0.heap.size) ∧ (V0).heap.size ≤ w3.heap.size) ∧ (w3).heap.size ≤ w4.heap.size) ∧ (w4).heap.size + 1 ≤ V1.heap.size) ∧ (V1).heap.size ≤ w5.heap.size) ∧ (w5).heap.size ≤ w6.heap.size) ∧ (w6).heap.size ≤ w7.heap.size) ∧ w7.heap.size ≤ w8.heap.size) ∧ (w8).heap.size ≤ w9.heap.size) ∧ w9.heap.size ≤ w10.heap.size) ∧ (w10).heap.size ≤ w11.heap.size) := ⟨Z.out, b.size⟩
  clear b
  obtain ⟨q0_0, q0_1, q0_2⟩ := OWB0.out.three
  obtain ⟨q1_0, q1_1, q1_2⟩ := OGB0.out.three
  go_wp2_with fail
  refine (ktoIntS_any _ D0 _ (HR.out.below B.out) hN0).mono ?_
  rintro e w12 ⟨tw12, rfl, o, b⟩
  clear q0_0 q0_1 q0_2 q1_0 q1_1 q1_2
  replace OW0 := hid (OW0.out.below b)
  replace OG0 := hid (OG0.out.below b)
  replace OWB0 := hid (OWB0.out.below b OWB0.out.lt)
  replace OGB0 := hid (OGB0.out.below b OGB0.out.lt)
  replace B : Hid (Below w.heap.size w w12) := B.out.trans (b.mono B.out.size)
  replace Z : Hid (((((((((((((((w.heap.size ≤ w.heap.size) ∧ (w).heap.size ≤ w1.heap.size) ∧ (w1).heap.size ≤ w2.heap.size) ∧ (w2).heap.size + 1 ≤ V0.heap.size) ∧ (V0).heap.size ≤ w3.heap.size) ∧ (w3).heap.size ≤ w4.heap.size) ∧ (w4).heap.size + 1 ≤ V1.heap.size) ∧ (V1).heap.size ≤ w5.heap.size) ∧ (w5).heap.size ≤ w6.heap.size) ∧ (w6).heap.size ≤ w7.heap.size) ∧ w7.heap.size ≤ w8.heap.size) ∧ (w8).heap.size ≤ w9.heap.size) ∧ w9.heap.size ≤ w10.heap.size) ∧ (w10).heap.size ≤ w11.heap.size) ∧ (w11).heap.size ≤ w12.heap.size) := ⟨Z.out, b.size⟩
  clear b
  have A9 := hid o.inS
  clear o
  obtain ⟨q0_0, q0_1, q0_2⟩ := OWB0.out.three
  obtain ⟨q1_0, q1_1, q1_2⟩ := OGB0.out.three
  go_wp2_with fail
  refine (HI'.out tw12 _ A9.out.reads).mono ?_
  rintro e w13 ⟨ohu0, rfl, o0, b⟩
  clear q0_0 q0_1 q0_2 q1_0 q1_1 q1_2
  replace OW0 := hid (OW0.out.below b)
  replace OG0 := hid (OG0.out.below b)
  replace A9 := hid (A9.out.below b)
  replace OWB0 := hid (OWB0.out.below b OWB0.out.lt)
  replace OGB0 := hid (OGB0.out.below b OGB0.out.lt)
  replace B : Hid (Below w.heap.size w w13) := B.out.trans (b.mono B.out.size)
  replace Z : Hid ((((((((((((((((w.heap.size ≤ w.heap.size) ∧ (w).heap.size ≤ w1.heap.size) ∧ (w1).heap.size ≤ w2.heap.size) ∧ (w2).heap.size + 1 ≤ V0.heap.size) ∧ (V0).heap.size ≤ w3.heap.size) ∧ (w3).heap.size ≤ w4.heap.size) ∧ (w4).heap.size + 1 ≤ V1.heap.size) ∧ (V1).heap.size ≤ w5.heap.size) ∧ (w5).heap.size ≤ w6.heap.size) ∧ (w6).heap.size ≤ w7.heap.size) ∧ w7.heap.size ≤ w8.heap.size) ∧ (w8).heap.size ≤ w9.heap.size) ∧ w9.heap.size ≤ w10.heap.size) ∧ (w10).heap.size ≤ w11.heap.size) ∧ (w11).heap.size ≤ w12.heap.size) ∧ (w12).heap.size ≤ w13.heap.size) := ⟨Z.out, b.size⟩
  clear b
  clear A9
  obtain ⟨ohc0_a1, ohc0_n1, ohc0_k1, ohc0_a2, ohc0_n2, ohc0_k2, rfl⟩ := o0.form
  have OH0 := hid o0
  have OH0I : Hid (∀ g, (Iv w12.heap.size w13.heap.size) g → w12.heap.size ≤ g ∧ g < w13.heap.size) := fun g h => h
  clear o0
  have b : Below (w13).heap.size (w13) (w13.alloc (.cells #[.int .i64 R0.f0, .slice ohc0_a1 ohc0_n1 ohc0_k1, .slice ohc0_a2 ohc0_n2 ohc0_k2] 26)) := (Below.refl _ _).alloc (Nat.le_refl _) _
  replace OW0 := hid (OW0.out.below b)
  replace OG0 := hid (OG0.out.below b)
  replace OH0 := hid (OH0.out.below b)
  replace OWB0 := hid (OWB0.out.below b OWB0.out.lt)
  replace OGB0 := hid (OGB0.out.below b OGB0.out.lt)
  have OHB0 := hid (boxL_new (w13) [.int .i64 R0.f0, .slice ohc0_a1 ohc0_n1 ohc0_k1, .slice ohc0_a2 ohc0_n2 ohc0_k2] 26)
  replace B : Hid (Below w.heap.size w (w13.alloc (.cells #[.int .i64 R0.f0, .slice ohc0_a1 ohc0_n1 ohc0_k1, .slice ohc0_a2 ohc0_n2 ohc0_k2] 26))) := B.out.trans (b.mono B.out.size)
  replace Z : Hid (((((((((((((((((w.heap.size ≤ w.heap.size) ∧ (w).heap.size ≤ w1.heap.size) ∧ (w1).heap.size ≤ w2.heap.size) ∧ (w2).heap.size + 1 ≤ V0.heap.size) ∧ (V0).heap.size ≤ w3.heap.size) ∧ (w3).heap.size ≤ w4.heap.size) ∧ (w4).heap.size + 1 ≤ V1.heap.size) ∧ (V1).heap.size ≤ w5.heap.size) ∧ (w5).heap.size ≤ w6.heap.size) ∧ (w6).heap.size ≤ w7.heap.size) ∧ w7.heap.size ≤ w8.heap.size) ∧ (w8).heap.size ≤ w9.heap.size) ∧ w9.heap.size ≤ w10.heap.size) ∧ (w10).heap.size ≤ w11.heap.size) ∧ (w11).heap.size ≤ w12.heap.size) ∧ (w12).heap.size ≤ w13.heap.size) ∧ (w13).heap.size + 1 ≤ (w13.alloc (.cells #[.int .i64 R0.f0, .slice ohc0_a1 ohc0_n1 ohc0_k1, .slice ohc0_a2 ohc0_n2 ohc0_k2] 26)).heap.size) := ⟨Z.out, by rw [World.size_alloc]; exact Nat.le_refl _⟩
  clear b
  obtain ⟨q0_0, q0_1, q0_2⟩ := OWB0.out.three
  obtain ⟨q1_0, q1_1, q1_2⟩ := OGB0.out.three
  obtain ⟨q2_0, q2_1, q2_2⟩ := OHB0.out.three
  go_wp2_with fail
  obtain ⟨V2, hV⟩ : ∃ V, V = w13.alloc (.cells #[.int .i64 R0.f0, .slice ohc0_a1 ohc0_n1 ohc0_k1, .slice ohc0_a2 ohc0_n2 ohc0_k2] 26) := ⟨_, rfl⟩
  rw [← hV] at B Z OW0 OG0 OH0 OWB0 OGB0 OHB0 ⊢
  clear hV
  refine (eqCourt_same _ _ R0 _ OH0.out.reads OW0.out.reads).mono ?_
  rintro e w14 ⟨rfl, b⟩
  clear q0_0 q0_1 q0_2 q1_0 q1_1 q1_2 q2_0 q2_1 q2_2
  replace OW0 := hid (OW0.out.below b)
  replace OG0 := hid (OG0.out.below b)
  replace OH0 := hid (OH0.out.below b)
  replace OWB0 := hid (OWB0.out.below b OWB0.out.lt)
  replace OGB0 := hid (OGB0.out.below b OGB0.out.lt)
  replace OHB0 := hid (OHB0.out.below b OHB0.out.lt)
  replace B : Hid (Below w.heap.size w w14) := B.out.trans (b.mono B.out.size)
  replace Z : Hid ((((((((((((((((((w.heap.size ≤ w.heap.size) ∧ (w).heap.size ≤ w1.heap.size) ∧ (w1).heap.size ≤ w2.heap.size) ∧ (w2).heap.size + 1 ≤ V0.heap.size) ∧ (V0).heap.size ≤ w3.heap.size) ∧ (w3).heap.size ≤ w4.heap.size) ∧ (w4).heap.size + 1 ≤ V1.heap.size) ∧ (V1).heap.size ≤ w5.heap.size) ∧ (w5).heap.size ≤ w6.heap.size) ∧ (w6).heap.size ≤ w7.heap.size) ∧ w7.heap.size ≤ w8.heap.size) ∧ (w8).heap.size ≤ w9.heap.size) ∧ w9.heap.size ≤ w10.heap.size) ∧ (w10).heap.size ≤ w11.heap.size) ∧ (w11).heap.size ≤ w12.heap.size) ∧ (w12).heap.size ≤ w13.heap.size) ∧ (w13).heap.size + 1 ≤ V2.heap.size) ∧ (V2).heap.size ≤ w14.heap.size) := ⟨Z.out, b.size⟩
  clear b
  obtain ⟨q0_0, q0_1, q0_2⟩ := OWB0.out.three
  obtain ⟨q1_0, q1_1, q1_2⟩ := OGB0.out.three
  obtain ⟨q2_0, q2_1, q2_2⟩ := OHB0.out.three
  go_wp2_with fail
  refine (heldCourt_any _ R0 1 m0 _ OG0.out.reads hYN0 (by omega) (by omega) HM_m0.out).mono ?_
  rintro e w15 ⟨rfl, b⟩
  clear q0_0 q0_1 q0_2 q1_0 q1_1 q1_2 q2_0 q2_1 q2_2
  replace OW0 := hid (OW0.out.below b)
  replace OG0 := hid (OG0.out.below b)
  replace OH0 := hid (OH0.out.below b)
  replace OWB0 := hid (OWB0.out.below b OWB0.out.lt)
  replace OGB0 := hid (OGB0.out.below b OGB0.out.lt)
  replace OHB0 := hid (OHB0.out.below b OHB0.out.lt)
  replace B : Hid (Below w.heap.size w w15) := B.out.trans (b.mono B.out.size)
  replace Z : Hid (((((((((((((((((((w.heap.size ≤ w.heap.size) ∧ (w).heap.size ≤ w1.heap.size) ∧ (w1).heap.size ≤ w2.heap.size) ∧ (w2).heap.size + 1 ≤ V0.heap.size) ∧ (V0).heap.size ≤ w3.heap.size) ∧ (w3).heap.size ≤ w4.heap.size) ∧ (w4).heap.size + 1 ≤ V1.heap.size) ∧ (V1).heap.size ≤ w5.heap.size) ∧ (w5).heap.size ≤ w6.heap.size) ∧ (w6).heap.size ≤ w7.heap.size) ∧ w7.heap.size ≤ w8.heap.size) ∧ (w8).heap.size ≤ w9.heap.size) ∧ w9.heap.size ≤ w10.heap.size) ∧ (w10).heap.size ≤ w11.heap.size) ∧ (w11).heap.size ≤ w12.heap.size) ∧ (w12).heap.size ≤ w13.heap.size) ∧ (w13).heap.size + 1 ≤ V2.heap.size) ∧ (V2).heap.size ≤ w14.heap.size) ∧ (w14).heap.size ≤ w15.heap.size) := ⟨Z.out, b.size⟩
  clear b
  go_wp2
  go_ret
  exact ⟨rfl, B.out⟩
end Go.Proofs.Ytdlkilacnnjglaa
