/-
  The law FnExactAgreesIn answers true at every argument, where both sides tell alike.
-/
import Derived.Test.YtdlkilacnnjglaaKCourtArg
import Derived.Test.YtdlkilacnnjglaaKCourtEq
import Derived.Test.YtdlkilacnnjglaaKCourtSz
import Derived.Test.YtdlkilacnnjglaaKCourtTo
import Derived.Test.YtdlkilacnnjglaaKOwnS
import Derived.Deep.RegionWith
namespace Go.Proofs.Ytdlkilacnnjglaa
open Go.RowKit

set_option maxRecDepth 100000 in
set_option maxHeartbeats 16000000 in
theorem FnExactAgreesIn_law (v0 : Value) (D0 : CoD) (w : World) (h0 : CoArg w v0 D0) (r0 : Bool) (r1 : Bool)
    (HS : ∀ (v : Value) (w : World), CoReads w v D0 → Calls Try.prog 23 #[v] w fun e w' => e = .returned (.tuple #[.bool r0, .bool r1]) ∧ Below w.heap.size w w')
    (HI : ∀ (v : Value) (w : World), CoReads w v D0 → Calls Try.prog 24 #[v] w fun e w' => e = .returned (.tuple #[.bool r0, .bool r1]) ∧ Below w.heap.size w w') :
    Calls Try.prog 6 #[v0] w fun e w' => e = .returned (.bool true) ∧ Below w.heap.size w w' := by
  have HS' := hid HS
  have HI' := hid HI
  clear HS HI
  obtain ⟨a1, a2, rfl, _⟩ := id h0
  have HA := hid h0
  clear h0
  have B : Hid (Below w.heap.size w w) := Below.refl _ _
  have Z : Hid (w.heap.size ≤ w.heap.size) := Nat.le_refl _
  have b : Below (w).heap.size (w) (w.alloc (.cells #[.int .i64 D0.f0, a1, a2] 38)) := (Below.refl _ _).alloc (Nat.le_refl _) _
  have BA := hid (boxL_new (w) [.int .i64 D0.f0, a1, a2] 38)
  replace B : Hid (Below w.heap.size w (w.alloc (.cells #[.int .i64 D0.f0, a1, a2] 38))) := B.out.trans (b.mono B.out.size)
  replace Z : Hid ((w.heap.size ≤ w.heap.size) ∧ (w).heap.size + 1 ≤ (w.alloc (.cells #[.int .i64 D0.f0, a1, a2] 38)).heap.size) := ⟨Z.out, by rw [World.size_alloc]; exact Nat.le_refl _⟩
  clear b
  go_enter Try.func6, Try.ntmps6
  obtain ⟨q0_0, q0_1, q0_2⟩ := BA.out.three
  go_wp2_with fail
  obtain ⟨V0, hV⟩ : ∃ V, V = w.alloc (.cells #[.int .i64 D0.f0, a1, a2] 38) := ⟨_, rfl⟩
  rw [← hV] at B Z BA ⊢
  clear hV
  refine (szCourt_any _ D0 _ (HA.out.below B.out) 1048576 (by omega) (by omega)).mono ?_
  rintro e w1 ⟨l1, rfl, hl, b⟩
  clear q0_0 q0_1 q0_2
  replace BA := hid (BA.out.below b BA.out.lt)
  replace B : Hid (Below w.heap.size w w1) := B.out.trans (b.mono B.out.size)
  replace Z : Hid (((w.heap.size ≤ w.heap.size) ∧ (w).heap.size + 1 ≤ V0.heap.size) ∧ (V0).heap.size ≤ w1.heap.size) := ⟨Z.out, b.size⟩
  clear b
  by_cases hneg : l1 < 0
  · have hd : decide (l1 < 0) = true := by rw [decide_eq_true_eq]; exact hneg
    go_wp2
    go_ret
    exact ⟨rfl, B.out⟩
  have hd : decide (l1 < 0) = false := by rw [decide_eq_false_iff_not]; exact hneg
  have htot : coTot D0 ≤ 1048576 := by have := hl.2.1 (by omega); omega
  clear hl
  have HR := hid (HA.out.reads htot)
  have hN0 : coTot D0 ≤ 1048576 := htot
  have hNN0 : coN D0 ≤ 4194304 := by unfold coTot at htot; unfold coN; omega
  clear htot HA
  obtain ⟨q0_0, q0_1, q0_2⟩ := BA.out.three
  go_wp2_with fail
  refine (toCourt_any _ D0 _ (HR.out.below B.out) hN0).mono ?_
  rintro e w2 ⟨tw2, rfl, o, b⟩
  clear q0_0 q0_1 q0_2
  replace BA := hid (BA.out.below b BA.out.lt)
  replace B : Hid (Below w.heap.size w w2) := B.out.trans (b.mono B.out.size)
  replace Z : Hid ((((w.heap.size ≤ w.heap.size) ∧ (w).heap.size + 1 ≤ V0.heap.size) ∧ (V0).heap.size ≤ w1.heap.size) ∧ (w1).heap.size ≤ w2.heap.size) := ⟨Z.out, b.size⟩
  clear b
  have A0 := hid o
  clear o
  obtain ⟨q0_0, q0_1, q0_2⟩ := BA.out.three
  go_wp2_with fail
  refine (HS'.out tw2 _ A0.out.reads).mono ?_
  rintro e w3 ⟨rfl, b⟩
  clear q0_0 q0_1 q0_2
  replace A0 := hid (A0.out.below b)
  replace BA := hid (BA.out.below b BA.out.lt)
  replace B : Hid (Below w.heap.size w w3) := B.out.trans (b.mono B.out.size)
  replace Z : Hid (((((w.heap.size ≤ w.heap.size) ∧ (w).heap.size + 1 ≤ V0.heap.size) ∧ (V0).heap.size ≤ w1.heap.size) ∧ (w1).heap.size ≤ w2.heap.size) ∧ (w2).heap.size ≤ w3.heap.size) := ⟨Z.out, b.size⟩
  clear b
  clear A0
  obtain ⟨q0_0, q0_1, q0_2⟩ := BA.out.three
  go_wp2_with fail
  refine (toCourt_any _ D0 _ (HR.out.below B.out) hN0).mono ?_
  rintro e w4 ⟨tw4, rfl, o, b⟩
  clear q0_0 q0_1 q0_2
  replace BA := hid (BA.out.below b BA.out.lt)
  replace B : Hid (Below w.heap.size w w4) := B.out.trans (b.mono B.out.size)
  replace Z : Hid ((((((w.heap.size ≤ w.heap.size) ∧ (w).heap.size + 1 ≤ V0.heap.size) ∧ (V0).heap.size ≤ w1.heap.size) ∧ (w1).heap.size ≤ w2.heap.size) ∧ (w2).heap.size ≤ w3.heap.size) ∧ (w3).heap.size ≤ w4.heap.size) := ⟨Z.out, b.size⟩
  clear b
  have X0 := hid o
  clear o
  obtain ⟨xa1, xn1, xk1, xa2, xn2, xk2, rfl⟩ := X0.out.form
  have b : Below (w4).heap.size (w4) (w4.alloc (.cells #[.int .i64 D0.f0, .slice xa1 xn1 xk1, .slice xa2 xn2 xk2] 26)) := (Below.refl _ _).alloc (Nat.le_refl _) _
  replace X0 := hid (X0.out.below b)
  replace BA := hid (BA.out.below b BA.out.lt)
  have BX := hid (boxL_new (w4) [.int .i64 D0.f0, .slice xa1 xn1 xk1, .slice xa2 xn2 xk2] 26)
  replace B : Hid (Below w.heap.size w (w4.alloc (.cells #[.int .i64 D0.f0, .slice xa1 xn1 xk1, .slice xa2 xn2 xk2] 26))) := B.out.trans (b.mono B.out.size)
  replace Z : Hid (((((((w.heap.size ≤ w.heap.size) ∧ (w).heap.size + 1 ≤ V0.heap.size) ∧ (V0).heap.size ≤ w1.heap.size) ∧ (w1).heap.size ≤ w2.heap.size) ∧ (w2).heap.size ≤ w3.heap.size) ∧ (w3).heap.size ≤ w4.heap.size) ∧ (w4).heap.size + 1 ≤ (w4.alloc (.cells #[.int .i64 D0.f0, .slice xa1 xn1 xk1, .slice xa2 xn2 xk2] 26)).heap.size) := ⟨Z.out, by rw [World.size_alloc]; exact Nat.le_refl _⟩
  clear b
  obtain ⟨q0_0, q0_1, q0_2⟩ := BA.out.three
  obtain ⟨q1_0, q1_1, q1_2⟩ := BX.out.three
  go_wp2_with fail
  obtain ⟨V1, hV⟩ : ∃ V, V = w4.alloc (.cells #[.int .i64 D0.f0, .slice xa1 xn1 xk1, .slice xa2 xn2 xk2] 26) := ⟨_, rfl⟩
  rw [← hV] at B Z X0 BA BX ⊢
  clear hV
  refine (HI'.out _ _ X0.out.reads).mono ?_
  rintro e w5 ⟨rfl, b⟩
  clear q0_0 q0_1 q0_2 q1_0 q1_1 q1_2
  replace X0 := hid (X0.out.below b)
  replace BA := hid (BA.out.below b BA.out.lt)
  replace BX := hid (BX.out.below b BX.out.lt)
  replace B : Hid (Below w.heap.size w w5) := B.out.trans (b.mono B.out.size)
  replace Z : Hid ((((((((w.heap.size ≤ w.heap.size) ∧ (w).heap.size + 1 ≤ V0.heap.size) ∧ (V0).heap.size ≤ w1.heap.size) ∧ (w1).heap.size ≤ w2.heap.size) ∧ (w2).heap.size ≤ w3.heap.size) ∧ (w3).heap.size ≤ w4.heap.size) ∧ (w4).heap.size + 1 ≤ V1.heap.size) ∧ (V1).heap.size ≤ w5.heap.size) := ⟨Z.out, b.size⟩
  clear b
  obtain ⟨q0_0, q0_1, q0_2⟩ := BA.out.three
  obtain ⟨q1_0, q1_1, q1_2⟩ := BX.out.three
  go_wp2_with fail
  clear q0_0 q0_1 q0_2 q1_0 q1_1 q1_2
  obtain ⟨q0_0, q0_1, q0_2⟩ := BA.out.three
  obtain ⟨q1_0, q1_1, q1_2⟩ := BX.out.three
  have bd : Below w5.heap.size w5 w5.drew := (Below.refl _ _).drew
  go_region_with (first
    | (go_at_call 19; refine (toCourt_any _ D0 _ (HR.out.below B.out.drew) hN0).mono ?_; rintro e w6 ⟨t5, rfl, o5, b5⟩; have X0_ := hid (X0.out.below (bd.trans b5)); have BA_ := hid (BA.out.below (bd.trans b5) BA.out.lt); have BX_ := hid (BX.out.below (bd.trans b5) BX.out.lt); have O5 := hid o5; have BB := hid (bd.trans b5); obtain ⟨y0, y1, y2⟩ := BX_.out.three; clear o5 b5)
    | (go_at_call 12; refine (eqCourt_same _ _ D0 _ X0_.out.reads O5.out.reads).mono ?_; rintro e w7 ⟨rfl, b6⟩; have B6 := hid b6; clear b6))
  all_goals
    clear y0 y1 y2 q0_0 q0_1 q0_2 q1_0 q1_1 q1_2
    have b : Below w5.heap.size w5 w7 := BB.out.trans (B6.out.mono BB.out.size)
    clear BB B6 O5 X0_ BA_ BX_
    clear bd
    replace X0 := hid (X0.out.below b)
    replace BA := hid (BA.out.below b BA.out.lt)
    replace BX := hid (BX.out.below b BX.out.lt)
    replace B : Hid (Below w.heap.size w w7) := B.out.trans (b.mono B.out.size)
    replace Z : Hid (((((((((w.heap.size ≤ w.heap.size) ∧ (w).heap.size + 1 ≤ V0.heap.size) ∧ (V0).heap.size ≤ w1.heap.size) ∧ (w1).heap.size ≤ w2.heap.size) ∧ (w2).heap.size ≤ w3.heap.size) ∧ (w3).heap.size ≤ w4.heap.size) ∧ (w4).heap.size + 1 ≤ V1.heap.size) ∧ (V1).heap.size ≤ w5.heap.size) ∧ (w5).heap.size ≤ w7.heap.size) := ⟨Z.out, b.size⟩
    clear b
    go_wp2
    go_ret
    exact ⟨rfl, B.out⟩
end Go.Proofs.Ytdlkilacnnjglaa
