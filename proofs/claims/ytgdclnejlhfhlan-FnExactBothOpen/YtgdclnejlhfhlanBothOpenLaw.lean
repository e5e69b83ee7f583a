/-
  The law FnExactBothOpen answers true at every argument, where both sides tell alike.
-/
import Derived.Test.YtgdclnejlhfhlanKGreetArg
import Derived.Test.YtgdclnejlhfhlanKGreetEq
import Derived.Test.YtgdclnejlhfhlanKGreetSz
import Derived.Test.YtgdclnejlhfhlanKGreetTo
import Derived.Test.YtgdclnejlhfhlanKOwnS
import Derived.Test.YtgdclnejlhfhlanBoxL11
import Derived.Deep.RegionWith
namespace Go.Proofs.Ytgdclnejlhfhlan
open Go.RowKit

set_option maxRecDepth 100000 in
set_option maxHeartbeats 16000000 in
theorem FnExactBothOpen_law (v0 : Value) (D0 : GrD) (w : World) (h0 : GrArg w v0 D0) (r0 : Bool) (r1 : Bool)
    (HS : ∀ (v : Value) (w : World), GrReads w v D0 → Calls Try.prog 28 #[v] w fun e w' => e = .returned (.tuple #[.bool r0, .bool r1]) ∧ Below w.heap.size w w')
    (HI : ∀ (v : Value) (w : World), GrReads w v D0 → Calls Try.prog 29 #[v] w fun e w' => e = .returned (.tuple #[.bool r0, .bool r1]) ∧ Below w.heap.size w w') :
    Calls Try.prog 6 #[v0] w fun e w' => e = .returned (.bool true) ∧ Below w.heap.size w w' := by
  have HS' := hid HS
  have HI' := hid HI
  clear HS HI
  obtain ⟨a8, a9, a10, rfl, _⟩ := id h0
  have HA := hid h0
  clear h0
  have B : Hid (Below w.heap.size w w) := Below.refl _ _
  have Z : Hid (w.heap.size ≤ w.heap.size) := Nat.le_refl _
  have b : Below (w).heap.size (w) (w.alloc (.cells #[.int .i64 D0.f0, .int .i64 D0.f1, .int .i64 D0.f2, .int .i64 D0.f3, .int .i64 D0.f4, .int .i64 D0.f5, .int .i64 D0.f6, .int .i64 D0.f7, a8, a9, a10] 24)) := (Below.refl _ _).alloc (Nat.le_refl _) _
  have BA := hid (boxL_new (w) [.int .i64 D0.f0, .int .i64 D0.f1, .int .i64 D0.f2, .int .i64 D0.f3, .int .i64 D0.f4, .int .i64 D0.f5, .int .i64 D0.f6, .int .i64 D0.f7, a8, a9, a10] 24)
  replace B : Hid (Below w.heap.size w (w.alloc (.cells #[.int .i64 D0.f0, .int .i64 D0.f1, .int .i64 D0.f2, .int .i64 D0.f3, .int .i64 D0.f4, .int .i64 D0.f5, .int .i64 D0.f6, .int .i64 D0.f7, a8, a9, a10] 24))) := B.out.trans (b.mono B.out.size)
  replace Z : Hid ((w.heap.size ≤ w.heap.size) ∧ (w).heap.size + 1 ≤ (w.alloc (.cells #[.int .i64 D0.f0, .int .i64 D0.f1, .int .i64 D0.f2, .int .i64 D0.f3, .int .i64 D0.f4, .int .i64 D0.f5, .int .i64 D0.f6, .int .i64 D0.f7, a8, a9, a10] 24)).heap.size) := ⟨Z.out, by rw [World.size_alloc]; exact Nat.le_refl _⟩
  clear b
  go_enter Try.func6, Try.ntmps6
  obtain ⟨q0_0, q0_1, q0_2, q0_3, q0_4, q0_5, q0_6, q0_7, q0_8, q0_9, q0_10⟩ := BA.out.eleven
  go_wp2_with fail
  obtain ⟨V0, hV⟩ : ∃ V, V = w.alloc (.cells #[.int .i64 D0.f0, .int .i64 D0.f1, .int .i64 D0.f2, .int .i64 D0.f3, .int .i64 D0.f4, .int .i64 D0.f5, .int .i64 D0.f6, .int .i64 D0.f7, a8, a9, a10] 24) := ⟨_, rfl⟩
  rw [← hV] at B Z BA ⊢
  clear hV
  refine (szGreet_any _ D0 _ (HA.out.below B.out) 1048576 (by omega) (by omega)).mono ?_
  rintro e w1 ⟨l1, rfl, hl, b⟩
  clear q0_0 q0_1 q0_2 q0_3 q0_4 q0_5 q0_6 q0_7 q0_8 q0_9 q0_10
  replace BA := hid (BA.out.below b BA.out.lt)
  replace B : Hid (Below w.heap.size w w1) := B.out.trans (b.mono B.out.size)
  replace Z : Hid (((w.heap.size ≤ w.heap.size) ∧ (w).heap.size + 1 ≤ V0.heap.size) ∧ (V0).heap.size ≤ w1.heap.size) := ⟨Z.out, b.size⟩
  clear b
  by_cases hneg : l1 < 0
  · have hd : decide (l1 < 0) = true := by rw [decide_eq_true_eq]; exact hneg
    go_wp2
    go_ret
    exact ⟨rfl, B.out⟩
  have hd : decide (l1 < 0) = false := by rw [decide_eq_false_iff_not]; exact hneg
  have htot : grTot D0 ≤ 1048576 := by have := hl.2.1 (by omega); omega
  clear hl
  have HR := hid (HA.out.reads htot)
  have hN0 : grTot D0 ≤ 1048576 := htot
  have hNN0 : grN D0 ≤ 4194304 := by unfold grTot at htot; unfold grN; omega
  clear htot HA
  obtain ⟨q0_0, q0_1, q0_2, q0_3, q0_4, q0_5, q0_6, q0_7, q0_8, q0_9, q0_10⟩ := BA.out.eleven
  go_wp2_with fail
  refine (toGreet_any _ D0 _ (HR.out.below B.out) hN0).mono ?_
  rintro e w2 ⟨tw2, rfl, o, b⟩
  clear q0_0 q0_1 q0_2 q0_3 q0_4 q0_5 q0_6 q0_7 q0_8 q0_9 q0_10
  replace BA := hid (BA.out.below b BA.out.lt)
  replace B : Hid (Below w.heap.size w w2) := B.out.trans (b.mono B.out.size)
  replace Z : Hid ((((w.heap.size ≤ w.heap.size) ∧ (w).heap.size + 1 ≤ V0.heap.size) ∧ (V0).heap.size ≤ w1.heap.size) ∧ (w1).heap.size ≤ w2.heap.size) := ⟨Z.out, b.size⟩
  clear b
  have A0 := hid o
  clear o
  obtain ⟨q0_0, q0_1, q0_2, q0_3, q0_4, q0_5, q0_6, q0_7, q0_8, q0_9, q0_10⟩ := BA.out.eleven
  go_wp2_with fail
  refine (HS'.out tw2 _ A0.out.reads).mono ?_
  rintro e w3 ⟨rfl, b⟩
  clear q0_0 q0_1 q0_2 q0_3 q0_4 q0_5 q0_6 q0_7 q0_8 q0_9 q0_10
  replace A0 := hid (A0.out.below b)
  replace BA := hid (BA.out.below b BA.out.lt)
  replace B : Hid (Below w.heap.size w w3) := B.out.trans (b.mono B.out.size)
  replace Z : Hid (((((w.heap.size ≤ w.heap.size) ∧ (w).heap.size + 1 ≤ V0.heap.size) ∧ (V0).heap.size ≤ w1.heap.size) ∧ (w1).heap.size ≤ w2.heap.size) ∧ (w2).heap.size ≤ w3.heap.size) := ⟨Z.out, b.size⟩
  clear b
  clear A0
  obtain ⟨q0_0, q0_1, q0_2, q0_3, q0_4, q0_5, q0_6, q0_7, q0_8, q0_9, q0_10⟩ := BA.out.eleven
  go_wp2_with fail
  refine (toGreet_any _ D0 _ (HR.out.below B.out) hN0).mono ?_
  rintro e w4 ⟨tw4, rfl, o, b⟩
  clear q0_0 q0_1 q0_2 q0_3 q0_4 q0_5 q0_6 q0_7 q0_8 q0_9 q0_10
  replace BA := hid (BA.out.below b BA.out.lt)
  replace B : Hid (Below w.heap.size w w4) := B.out.trans (b.mono B.out.size)
  replace Z : Hid ((((((w.heap.size ≤ w.heap.size) ∧ (w).heap.size + 1 ≤ V0.heap.size) ∧ (V0).heap.size ≤ w1.heap.size) ∧ (w1).heap.size ≤ w2.heap.size) ∧ (w2).heap.size ≤ w3.heap.size) ∧ (w3).heap.size ≤ w4.heap.size) := ⟨Z.out, b.size⟩
  clear b
  have X0 := hid o
  clear o
  obtain ⟨xa8, xn8, xk8, xa9, xn9, xk9, xa10, xn10, xk10, rfl⟩ := X0.out.form
  have b : Below (w4).heap.size (w4) (w4.alloc (.cells #[.int .i64 D0.f0, .int .i64 D0.f1, .int .i64 D0.f2, .int .i64 D0.f3, .int .i64 D0.f4, .int .i64 D0.f5, .int .i64 D0.f6, .int .i64 D0.f7, .slice xa8 xn8 xk8, .slice xa9 xn9 xk9, .slice xa10 xn10 xk10] 29)) := (Below.refl _ _).alloc (Nat.le_refl _) _
  replace X0 := hid (X0.out.below b)
  replace BA := hid (BA.out.below b BA.out.lt)
  have BX := hid (boxL_new (w4) [.int .i64 D0.f0, .int .i64 D0.f1, .int .i64 D0.f2, .int .i64 D0.f3, .int .i64 D0.f4, .int .i64 D0.f5, .int .i64 D0.f6, .int .i64 D0.f7, .slice xa8 xn8 xk8, .slice xa9 xn9 xk9, .slice xa10 xn10 xk10] 29)
  replace B : Hid (Below w.heap.size w (w4.alloc (.cells #[.int .i64 D0.f0, .int .i64 D0.f1, .int .i64 D0.f2, .int .i64 D0.f3, .int .i64 D0.f4, .int .i64 D0.f5, .int .i64 D0.f6, .int .i64 D0.f7, .slice xa8 xn8 xk8, .slice xa9 xn9 xk9, .slice xa10 xn10 xk10] 29))) := B.out.trans (b.mono B.out.size)
  replace Z : Hid (((((((w.heap.size ≤ w.heap.size) ∧ (w).heap.size + 1 ≤ V0.heap.size) ∧ (V0).heap.size ≤ w1.heap.size) ∧ (w1).heap.size ≤ w2.heap.size) ∧ (w2).heap.size ≤ w3.heap.size) ∧ (w3).heap.size ≤ w4.heap.size) ∧ (w4).heap.size + 1 ≤ (w4.alloc (.cells #[.int .i64 D0.f0, .int .i64 D0.f1, .int .i64 D0.f2, .int .i64 D0.f3, .int .i64 D0.f4, .int .i64 D0.f5, .int .i64 D0.f6, .int .i64 D0.f7, .slice xa8 xn8 xk8, .slice xa9 xn9 xk9, .slice xa10 xn10 xk10] 29)).heap.size) := ⟨Z.out, by rw [World.size_alloc]; exact Nat.le_refl _⟩
  clear b
  obtain ⟨q0_0, q0_1, q0_2, q0_3, q0_4, q0_5, q0_6, q0_7, q0_8, q0_9, q0_10⟩ := BA.out.eleven
  obtain ⟨q1_0, q1_1, q1_2, q1_3, q1_4, q1_5, q1_6, q1_7, q1_8, q1_9, q1_10⟩ := BX.out.eleven
  go_wp2_with fail
  obtain ⟨V1, hV⟩ : ∃ V, V = w4.alloc (.cells #[.int .i64 D0.f0, .int .i64 D0.f1, .int .i64 D0.f2, .int .i64 D0.f3, .int .i64 D0.f4, .int .i64 D0.f5, .int .i64 D0.f6, .int .i64 D0.f7, .slice xa8 xn8 xk8, .slice xa9 xn9 xk9, .slice xa10 xn10 xk10] 29) := ⟨_, rfl⟩
  rw [← hV] at B Z X0 BA BX ⊢
  clear hV
  refine (HI'.out _ _ X0.out.reads).mono ?_
  rintro e w5 ⟨rfl, b⟩
  clear q0_0 q0_1 q0_2 q0_3 q0_4 q0_5 q0_6 q0_7 q0_8 q0_9 q0_10 q1_0 q1_1 q1_2 q1_3 q1_4 q1_5 q1_6 q1_7 q1_8 q1_9 q1_10
  replace X0 := hid (X0.out.below b)
  replace BA := hid (BA.out.below b BA.out.lt)
  replace BX := hid (BX.out.below b BX.out.lt)
  replace B : Hid (Below w.heap.size w w5) := B.out.trans (b.mono B.out.size)
  replace Z : Hid ((((((((w.heap.size ≤ w.heap.size) ∧ (w).heap.size + 1 ≤ V0.heap.size) ∧ (V0).heap.size ≤ w1.heap.size) ∧ (w1).heap.size ≤ w2.heap.size) ∧ (w2).heap.size ≤ w3.heap.size) ∧ (w3).heap.size ≤ w4.heap.size) ∧ (w4).heap.size + 1 ≤ V1.heap.size) ∧ (V1).heap.size ≤ w5.heap.size) := ⟨Z.out, b.size⟩
  clear b
  obtain ⟨q0_0, q0_1, q0_2, q0_3, q0_4, q0_5, q0_6, q0_7, q0_8, q0_9, q0_10⟩ := BA.out.eleven
  obtain ⟨q1_0, q1_1, q1_2, q1_3, q1_4, q1_5, q1_6, q1_7, q1_8, q1_9, q1_10⟩ := BX.out.eleven
  go_wp2_with fail
  clear q0_0 q0_1 q0_2 q0_3 q0_4 q0_5 q0_6 q0_7 q0_8 q0_9 q0_10 q1_0 q1_1 q1_2 q1_3 q1_4 q1_5 q1_6 q1_7 q1_8 q1_9 q1_10
  obtain ⟨q0_0, q0_1, q0_2, q0_3, q0_4, q0_5, q0_6, q0_7, q0_8, q0_9, q0_10⟩ := BA.out.eleven
  obtain ⟨q1_0, q1_1, q1_2, q1_3, q1_4, q1_5, q1_6, q1_7, q1_8, q1_9, q1_10⟩ := BX.out.eleven
  have bd : Below w5.heap.size w5 w5.drew := (Below.refl _ _).drew
  go_region_with (first
    | (go_at_call 11; refine (toGreet_any _ D0 _ (HR.out.below B.out.drew) hN0).mono ?_; rintro e w6 ⟨t5, rfl, o5, b5⟩; have X0_ := hid (X0.out.below (bd.trans b5)); have BA_ := hid (BA.out.below (bd.trans b5) BA.out.lt); have BX_ := hid (BX.out.below (bd.trans b5) BX.out.lt); have O5 := hid o5; have BB := hid (bd.trans b5); obtain ⟨y0, y1, y2, y3, y4, y5, y6, y7, y8, y9, y10⟩ := BX_.out.eleven; clear o5 b5)
    | (go_at_call 13; refine (eqGreet_same _ _ D0 _ X0_.out.reads O5.out.reads).mono ?_; rintro e w7 ⟨rfl, b6⟩; have B6 := hid b6; clear b6))
  all_goals
    clear y0 y1 y2 y3 y4 y5 y6 y7 y8 y9 y10 q0_0 q0_1 q0_2 q0_3 q0_4 q0_5 q0_6 q0_7 q0_8 q0_9 q0_10 q1_0 q1_1 q1_2 q1_3 q1_4 q1_5 q1_6 q1_7 q1_8 q1_9 q1_10
    have b : Below w5.heap.size w5 w7 := BB.out.trans (B6.out.mono BB.out.size)
    clear BB B6 O5 X0_ BA_ BX_
    clear bd
    replace X0 := hid (X0.out.below b)
    replace BA := hid (BA.out.below b BA.out.lt)
    replace BX := hid (BX.out.below b BX.out.lt)
    replace B : Hid (Below w.heap.size w w7) := B.out.trans (b.mono B.out.size)
    replace Z : Hid (((((((((w.heap.size ≤ w.heap.size) ∧ (w).heap.size + 1 ≤ V0.heap.size) ∧ (V0).heap.size ≤ w1.heap.size) ∧ (w1).heap.size ≤ w2.heap.size) ∧ (w2).heap.size ≤ w3.heap.size) ∧ (w3).heap.size ≤ w4.heap.size) ∧ (w4).heap.size + 1 ≤ V1.heap.size) ∧ (V1).heap.size ≤ w5.heap.size) ∧ (w5).heap.size ≤ w7.heap.size) := ⟨Z.out, b.size⟩
    clear b
    go_wp2
    go_ret
    exact ⟨rfl, B.out⟩
end Go.Proofs.Ytgdclnejlhfhlan
