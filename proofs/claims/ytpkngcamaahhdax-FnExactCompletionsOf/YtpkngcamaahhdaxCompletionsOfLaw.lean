/-
  The law FnExactCompletionsOf answers true at every argument, where both sides tell alike.
-/
import Derived.Test.YtpkngcamaahhdaxKIntArg
import Derived.Test.YtpkngcamaahhdaxKIntEq
import Derived.Test.YtpkngcamaahhdaxKIntMark
import Derived.Test.YtpkngcamaahhdaxKIntToS
import Derived.Test.YtpkngcamaahhdaxKTaskArg
import Derived.Test.YtpkngcamaahhdaxKTaskEq
import Derived.Test.YtpkngcamaahhdaxKTaskMark
import Derived.Test.YtpkngcamaahhdaxKTaskSz
import Derived.Test.YtpkngcamaahhdaxKTaskToS
import Derived.Deep.RegionHeld3
namespace Go.Proofs.Ytpkngcamaahhdax
open Go.RowKit

set_option maxHeartbeats 8000000 in
theorem FnExactCompletionsOf_law (a0 : Option Addr) (len0 cap0 : Nat) (xs0 : List TkEl) (a1 : Option Addr) (len1 cap1 : Nat) (xs1 : List Int) (w : World) (hrow0 : TkArg w a0 len0 cap0 xs0) (hrow1 : KArg w a1 len1 cap1 xs1) (ys0 : List Int) (hy0 : ys0.length ≤ 1048576) (r1 : Bool)
    (HS : ∀ (v0 : Value) (v1 : Value) (w : World), TkReads w v0 xs0 → KReads w v1 xs1 → Calls Try.prog 10 #[v0, v1] w fun e w' => ∃ u0, e = .returned (.tuple #[u0, .bool r1]) ∧ KOwn w.heap.size w'.heap.size w' u0 ys0 ∧ Below w.heap.size w w')
    (HI : ∀ (v0 : Value) (v1 : Value) (w : World), TkReads w v0 xs0 → KReads w v1 xs1 → Calls Try.prog 12 #[v0, v1] w fun e w' => ∃ u0, e = .returned (.tuple #[u0, .bool r1]) ∧ KOwn w.heap.size w'.heap.size w' u0 ys0 ∧ Below w.heap.size w w') :
    Calls Try.prog 4 #[.slice a0 len0 cap0, .slice a1 len1 cap1] w fun e w' => e = .returned (.bool true) ∧ Below w.heap.size w w' := by
  have HS' := hid HS
  have HI' := hid HI
  clear HS HI
  by_cases hl1 : (len1 : Int) ≤ 1048576
  rotate_left
  · have hm : len1 ≤ maxLen := Nat.le_trans hrow1.2.1 hrow1.2.2.1
    unfold maxLen at hm
    have hd : decide ((len1 : Int) > 1048576) = true := by simp; omega
    clear HS' HI' hrow0 hrow1
    go_enter Try.func4, Try.ntmps4
    go_wp2
    go_ret
    exact ⟨rfl, Below.refl _ _⟩
  have hdI1 : decide ((len1 : Int) > 1048576) = false := by simp; omega
  by_cases hl0 : (len0 : Int) ≤ 1048576
  rotate_left
  · have hm : len0 ≤ maxLen := Nat.le_trans hrow0.2.1 hrow0.2.2.1
    clear HS' HI' hrow0 hrow1
    go_enter Try.func4, Try.ntmps4
    go_wp2_with fail
    refine (szTaskS_over _ a0 len0 cap0 _ (by omega) (by omega) (by omega) hm).mono ?_
    rintro e w' ⟨rfl, hw⟩; obtain rfl := hw.symm
    go_wp2
    go_ret
    refine ⟨rfl, ?_⟩
    first | exact Below.refl _ _ | go_grown
  have HR0 := hid (hrow0.reads (by omega))
  have hxl0 : xs0.length ≤ 1048576 := by rw [hrow0.1]; omega
  clear hrow0
  have HR1 := hid (hrow1.reads (by omega))
  have hxl1 : xs1.length ≤ 1048576 := by rw [hrow1.1]; omega
  clear hrow1
  go_enter Try.func4, Try.ntmps4
  go_wp2_with fail
  refine (szTaskS_at _ a0 len0 cap0 _ (by omega) (by omega) (by omega)).mono ?_
  rintro e w' ⟨rfl, hw⟩; obtain rfl := hw.symm
  have hd0 : decide (1048576 - (len0 : Int) < 0) = false := by simp; omega
  have Z : Hid (w.heap.size ≤ w.heap.size) := Nat.le_refl _
  have B : Hid (Below w.heap.size w w) := Below.refl _ _
  go_wp2_with fail
  refine (toTaskS_any _ xs0 _ (HR0.out.below B.out) hxl0).mono ?_
  rintro e w1 ⟨v0_1, rfl, o, b⟩
  have Z : Hid ((w.heap.size ≤ w.heap.size) ∧ w.heap.size ≤ w1.heap.size) := ⟨Z.out, b.size⟩
  have B : Hid (Below w.heap.size w w1) := B.out.trans (b.mono B.out.size)
  clear b
  have A0 := hid o
  clear o
  go_wp2_with fail
  refine (ktoIntS_any _ xs1 _ (HR1.out.below B.out) hxl1).mono ?_
  rintro e w2 ⟨v1_2, rfl, o, b⟩
  replace A0 := hid (A0.out.below b)
  have Z : Hid (((w.heap.size ≤ w.heap.size) ∧ w.heap.size ≤ w1.heap.size) ∧ w1.heap.size ≤ w2.heap.size) := ⟨Z.out, b.size⟩
  have B : Hid (Below w.heap.size w w2) := B.out.trans (b.mono B.out.size)
  clear b
  have A1 := hid o
  clear o
  go_wp2_with fail
  refine (HS'.out v0_1 v1_2 _ A0.out.reads A1.out.reads).mono ?_
  rintro e w3 ⟨ow_3, rfl, o, b⟩
  replace A0 := hid (A0.out.below b)
  replace A1 := hid (A1.out.below b)
  have Z : Hid ((((w.heap.size ≤ w.heap.size) ∧ w.heap.size ≤ w1.heap.size) ∧ w1.heap.size ≤ w2.heap.size) ∧ w2.heap.size ≤ w3.heap.size) := ⟨Z.out, b.size⟩
  have B : Hid (Below w.heap.size w w3) := B.out.trans (b.mono B.out.size)
  clear b
  have OW := hid o
  clear o
  clear A0
  clear A1
  go_wp2_with fail
  refine (toTaskS_any _ xs0 _ (HR0.out.below B.out) hxl0).mono ?_
  rintro e w4 ⟨v0_4, rfl, o, b⟩
  replace OW := hid (OW.out.below b)
  have Z : Hid (((((w.heap.size ≤ w.heap.size) ∧ w.heap.size ≤ w1.heap.size) ∧ w1.heap.size ≤ w2.heap.size) ∧ w2.heap.size ≤ w3.heap.size) ∧ w3.heap.size ≤ w4.heap.size) := ⟨Z.out, b.size⟩
  have B : Hid (Below w.heap.size w w4) := B.out.trans (b.mono B.out.size)
  clear b
  have X0 := hid o
  clear o
  go_wp2_with fail
  refine (ktoIntS_any _ xs1 _ (HR1.out.below B.out) hxl1).mono ?_
  rintro e w5 ⟨v1_5, rfl, o, b⟩
  replace OW := hid (OW.out.below b)
  replace X0 := hid (X0.out.below b)
  have Z : Hid ((((((w.heap.size ≤ w.heap.size) ∧ w.heap.size ≤ w1.heap.size) ∧ w1.heap.size ≤ w2.heap.size) ∧ w2.heap.size ≤ w3.heap.size) ∧ w3.heap.size ≤ w4.heap.size) ∧ w4.heap.size ≤ w5.heap.size) := ⟨Z.out, b.size⟩
  have B : Hid (Below w.heap.size w w5) := B.out.trans (b.mono B.out.size)
  clear b
  have X1 := hid o
  clear o
  go_wp2_with fail
  refine (HI'.out v0_4 v1_5 _ X0.out.reads X1.out.reads).mono ?_
  rintro e w6 ⟨og_6, rfl, o, b⟩
  replace OW := hid (OW.out.below b)
  replace X0 := hid (X0.out.below b)
  replace X1 := hid (X1.out.below b)
  have Z : Hid (((((((w.heap.size ≤ w.heap.size) ∧ w.heap.size ≤ w1.heap.size) ∧ w1.heap.size ≤ w2.heap.size) ∧ w2.heap.size ≤ w3.heap.size) ∧ w3.heap.size ≤ w4.heap.size) ∧ w4.heap.size ≤ w5.heap.size) ∧ w5.heap.size ≤ w6.heap.size) := ⟨Z.out, b.size⟩
  have B : Hid (Below w.heap.size w w6) := B.out.trans (b.mono B.out.size)
  clear b
  have OG := hid o
  clear o
  go_wp2_with fail
  refine (keqIntS_same _ _ ys0 _ OG.out.reads OW.out.reads).mono ?_
  rintro e w7 ⟨rfl, b⟩
  replace OW := hid (OW.out.below b)
  replace X0 := hid (X0.out.below b)
  replace X1 := hid (X1.out.below b)
  replace OG := hid (OG.out.below b)
  have Z : Hid ((((((((w.heap.size ≤ w.heap.size) ∧ w.heap.size ≤ w1.heap.size) ∧ w1.heap.size ≤ w2.heap.size) ∧ w2.heap.size ≤ w3.heap.size) ∧ w3.heap.size ≤ w4.heap.size) ∧ w4.heap.size ≤ w5.heap.size) ∧ w5.heap.size ≤ w6.heap.size) ∧ w6.heap.size ≤ w7.heap.size) := ⟨Z.out, b.size⟩
  have B : Hid (Below w.heap.size w w7) := B.out.trans (b.mono B.out.size)
  clear b
  go_wp2_with fail
  refine (toTaskS_any _ xs0 _ (HR0.out.below B.out) hxl0).mono ?_
  rintro e w8 ⟨v0_8, rfl, o, b⟩
  replace OW := hid (OW.out.below b)
  replace X0 := hid (X0.out.below b)
  replace X1 := hid (X1.out.below b)
  replace OG := hid (OG.out.below b)
  have Z : Hid (((((((((w.heap.size ≤ w.heap.size) ∧ w.heap.size ≤ w1.heap.size) ∧ w1.heap.size ≤ w2.heap.size) ∧ w2.heap.size ≤ w3.heap.size) ∧ w3.heap.size ≤ w4.heap.size) ∧ w4.heap.size ≤ w5.heap.size) ∧ w5.heap.size ≤ w6.heap.size) ∧ w6.heap.size ≤ w7.heap.size) ∧ w7.heap.size ≤ w8.heap.size) := ⟨Z.out, b.size⟩
  have B : Hid (Below w.heap.size w w8) := B.out.trans (b.mono B.out.size)
  clear b
  have A0 := hid o
  clear o
  go_wp2_with fail
  refine (eqTaskS_same _ _ xs0 _ X0.out.reads A0.out.reads).mono ?_
  rintro e w9 ⟨rfl, b⟩
  replace OW := hid (OW.out.below b)
  replace X0 := hid (X0.out.below b)
  replace X1 := hid (X1.out.below b)
  replace OG := hid (OG.out.below b)
  replace A0 := hid (A0.out.below b)
  have Z : Hid ((((((((((w.heap.size ≤ w.heap.size) ∧ w.heap.size ≤ w1.heap.size) ∧ w1.heap.size ≤ w2.heap.size) ∧ w2.heap.size ≤ w3.heap.size) ∧ w3.heap.size ≤ w4.heap.size) ∧ w4.heap.size ≤ w5.heap.size) ∧ w5.heap.size ≤ w6.heap.size) ∧ w6.heap.size ≤ w7.heap.size) ∧ w7.heap.size ≤ w8.heap.size) ∧ w8.heap.size ≤ w9.heap.size) := ⟨Z.out, b.size⟩
  have B : Hid (Below w.heap.size w w9) := B.out.trans (b.mono B.out.size)
  clear b
  clear A0
  go_wp2_with fail
  refine (ktoIntS_any _ xs1 _ (HR1.out.below B.out) hxl1).mono ?_
  rintro e w10 ⟨v1_10, rfl, o, b⟩
  replace OW := hid (OW.out.below b)
  replace X0 := hid (X0.out.below b)
  replace X1 := hid (X1.out.below b)
  replace OG := hid (OG.out.below b)
  have Z : Hid (((((((((((w.heap.size ≤ w.heap.size) ∧ w.heap.size ≤ w1.heap.size) ∧ w1.heap.size ≤ w2.heap.size) ∧ w2.heap.size ≤ w3.heap.size) ∧ w3.heap.size ≤ w4.heap.size) ∧ w4.heap.size ≤ w5.heap.size) ∧ w5.heap.size ≤ w6.heap.size) ∧ w6.heap.size ≤ w7.heap.size) ∧ w7.heap.size ≤ w8.heap.size) ∧ w8.heap.size ≤ w9.heap.size) ∧ w9.heap.size ≤ w10.heap.size) := ⟨Z.out, b.size⟩
  have B : Hid (Below w.heap.size w w10) := B.out.trans (b.mono B.out.size)
  clear b
  have A1 := hid o
  clear o
  go_wp2_with fail
  refine (keqIntS_same _ _ xs1 _ X1.out.reads A1.out.reads).mono ?_
  rintro e w11 ⟨rfl, b⟩
  replace OW := hid (OW.out.below b)
  replace X0 := hid (X0.out.below b)
  replace X1 := hid (X1.out.below b)
  replace OG := hid (OG.out.below b)
  replace A1 := hid (A1.out.below b)
  have Z : Hid ((((((((((((w.heap.size ≤ w.heap.size) ∧ w.heap.size ≤ w1.heap.size) ∧ w1.heap.size ≤ w2.heap.size) ∧ w2.heap.size ≤ w3.heap.size) ∧ w3.heap.size ≤ w4.heap.size) ∧ w4.heap.size ≤ w5.heap.size) ∧ w5.heap.size ≤ w6.heap.size) ∧ w6.heap.size ≤ w7.heap.size) ∧ w7.heap.size ≤ w8.heap.size) ∧ w8.heap.size ≤ w9.heap.size) ∧ w9.heap.size ≤ w10.heap.size) ∧ w10.heap.size ≤ w11.heap.size) := ⟨Z.out, b.size⟩
  have B : Hid (Below w.heap.size w w11) := B.out.trans (b.mono B.out.size)
  clear b
  clear A1
  obtain ⟨k0, hm, k0_0, k0_1⟩ : ∃ m : Int, m = 1 + (2 * xs0.length : Nat) ∧ 0 ≤ m ∧ m ≤ 10000000 := ⟨_, rfl, by omega, by omega⟩
  have HM_k0 := hid hm
  clear hm
  go_wp2_with fail
  refine (markTaskS_any _ _ _ xs0 _ k0 _ X0.out hxl0 (by omega) (by omega) HM_k0.out).mono ?_
  rintro e w12 ⟨rfl, o, b, on⟩
  have OW := hid (OW.out.only on (by have := Z.out; omega))
  have X1 := hid (X1.out.only on (by have := Z.out; omega))
  have OG := hid (OG.out.only on (by have := Z.out; omega))
  have X0 := hid o
  have Z : Hid (((((((((((((w.heap.size ≤ w.heap.size) ∧ w.heap.size ≤ w1.heap.size) ∧ w1.heap.size ≤ w2.heap.size) ∧ w2.heap.size ≤ w3.heap.size) ∧ w3.heap.size ≤ w4.heap.size) ∧ w4.heap.size ≤ w5.heap.size) ∧ w5.heap.size ≤ w6.heap.size) ∧ w6.heap.size ≤ w7.heap.size) ∧ w7.heap.size ≤ w8.heap.size) ∧ w8.heap.size ≤ w9.heap.size) ∧ w9.heap.size ≤ w10.heap.size) ∧ w10.heap.size ≤ w11.heap.size) ∧ w11.heap.size ≤ w12.heap.size) := ⟨Z.out, b.size⟩
  have B : Hid (Below w.heap.size w w12) := B.out.trans (b.mono (by have := Z.out; omega))
  clear b o on
  obtain ⟨k1, hm, k1_0, k1_1⟩ : ∃ m : Int, m = k0 + (xs1.length : Nat) ∧ 0 ≤ m ∧ m ≤ 20000000 := ⟨_, rfl, by omega, by omega⟩
  have HM_k1 := hid hm
  clear hm
  go_wp2_with fail
  refine (kmarkIntS_any _ _ _ xs1 _ k1 _ X1.out hxl1 (by omega) (by omega) HM_k1.out).mono ?_
  rintro e w13 ⟨rfl, o, b, on⟩
  have OW := hid (OW.out.only on (by have := Z.out; omega))
  have X0 := hid (X0.out.only on (by have := Z.out; omega))
  have OG := hid (OG.out.only on (by have := Z.out; omega))
  have X1 := hid o
  have Z : Hid ((((((((((((((w.heap.size ≤ w.heap.size) ∧ w.heap.size ≤ w1.heap.size) ∧ w1.heap.size ≤ w2.heap.size) ∧ w2.heap.size ≤ w3.heap.size) ∧ w3.heap.size ≤ w4.heap.size) ∧ w4.heap.size ≤ w5.heap.size) ∧ w5.heap.size ≤ w6.heap.size) ∧ w6.heap.size ≤ w7.heap.size) ∧ w7.heap.size ≤ w8.heap.size) ∧ w8.heap.size ≤ w9.heap.size) ∧ w9.heap.size ≤ w10.heap.size) ∧ w10.heap.size ≤ w11.heap.size) ∧ w11.heap.size ≤ w12.heap.size) ∧ w12.heap.size ≤ w13.heap.size) := ⟨Z.out, b.size⟩
  have B : Hid (Below w.heap.size w w13) := B.out.trans (b.mono (by have := Z.out; omega))
  clear b o on
  go_wp2_with fail
  refine (keqIntS_same _ _ ys0 _ OG.out.reads OW.out.reads).mono ?_
  rintro e w14 ⟨rfl, b⟩
  replace OW := hid (OW.out.below b)
  replace X0 := hid (X0.out.below b)
  replace X1 := hid (X1.out.below b)
  replace OG := hid (OG.out.below b)
  have Z : Hid (((((((((((((((w.heap.size ≤ w.heap.size) ∧ w.heap.size ≤ w1.heap.size) ∧ w1.heap.size ≤ w2.heap.size) ∧ w2.heap.size ≤ w3.heap.size) ∧ w3.heap.size ≤ w4.heap.size) ∧ w4.heap.size ≤ w5.heap.size) ∧ w5.heap.size ≤ w6.heap.size) ∧ w6.heap.size ≤ w7.heap.size) ∧ w7.heap.size ≤ w8.heap.size) ∧ w8.heap.size ≤ w9.heap.size) ∧ w9.heap.size ≤ w10.heap.size) ∧ w10.heap.size ≤ w11.heap.size) ∧ w11.heap.size ≤ w12.heap.size) ∧ w12.heap.size ≤ w13.heap.size) ∧ w13.heap.size ≤ w14.heap.size) := ⟨Z.out, b.size⟩
  have B : Hid (Below w.heap.size w w14) := B.out.trans (b.mono B.out.size)
  clear b
  clear X0
  clear X1
  obtain ⟨m0, hm, m0_0, m0_1⟩ : ∃ m : Int, m = 1 + (ys0.length : Nat) ∧ 0 ≤ m ∧ m ≤ 10000000 := ⟨_, rfl, by omega, by omega⟩
  have HM_m0 := hid hm
  clear hm
  go_wp2_with fail
  refine (kmarkIntS_any _ _ _ ys0 _ m0 _ OG.out hy0 (by omega) (by omega) HM_m0.out).mono ?_
  rintro e w15 ⟨rfl, o, b, on⟩
  have OW := hid (OW.out.only on (by have := Z.out; omega))
  have OG := hid o
  have Z : Hid ((((((((((((((((w.heap.size ≤ w.heap.size) ∧ w.heap.size ≤ w1.heap.size) ∧ w1.heap.size ≤ w2.heap.size) ∧ w2.heap.size ≤ w3.heap.size) ∧ w3.heap.size ≤ w4.heap.size) ∧ w4.heap.size ≤ w5.heap.size) ∧ w5.heap.size ≤ w6.heap.size) ∧ w6.heap.size ≤ w7.heap.size) ∧ w7.heap.size ≤ w8.heap.size) ∧ w8.heap.size ≤ w9.heap.size) ∧ w9.heap.size ≤ w10.heap.size) ∧ w10.heap.size ≤ w11.heap.size) ∧ w11.heap.size ≤ w12.heap.size) ∧ w12.heap.size ≤ w13.heap.size) ∧ w13.heap.size ≤ w14.heap.size) ∧ w14.heap.size ≤ w15.heap.size) := ⟨Z.out, b.size⟩
  have B : Hid (Below w.heap.size w w15) := B.out.trans (b.mono (by have := Z.out; omega))
  clear b o on
  go_wp2_with fail
  refine (kheldIntS_any _ ys0.length _ m0 _ OG.out.reads hy0 (by omega) (by omega) HM_m0.out).mono ?_
  rintro e w' ⟨rfl, hw⟩; obtain rfl := hw.symm
  go_wp2_with fail
  refine (toTaskS_any _ xs0 _ (HR0.out.below B.out) hxl0).mono ?_
  rintro e w16 ⟨v0_16, rfl, o, b⟩
  replace OW := hid (OW.out.below b)
  replace OG := hid (OG.out.below b)
  have Z : Hid (((((((((((((((((w.heap.size ≤ w.heap.size) ∧ w.heap.size ≤ w1.heap.size) ∧ w1.heap.size ≤ w2.heap.size) ∧ w2.heap.size ≤ w3.heap.size) ∧ w3.heap.size ≤ w4.heap.size) ∧ w4.heap.size ≤ w5.heap.size) ∧ w5.heap.size ≤ w6.heap.size) ∧ w6.heap.size ≤ w7.heap.size) ∧ w7.heap.size ≤ w8.heap.size) ∧ w8.heap.size ≤ w9.heap.size) ∧ w9.heap.size ≤ w10.heap.size) ∧ w10.heap.size ≤ w11.heap.size) ∧ w11.heap.size ≤ w12.heap.size) ∧ w12.heap.size ≤ w13.heap.size) ∧ w13.heap.size ≤ w14.heap.size) ∧ w14.heap.size ≤ w15.heap.size) ∧ w15.heap.size ≤ w16.heap.size) := ⟨Z.out, b.size⟩
  have B : Hid (Below w.heap.size w w16) := B.out.trans (b.mono B.out.size)
  clear b
  have A0 := hid o
  clear o
  go_wp2_with fail
  refine (ktoIntS_any _ xs1 _ (HR1.out.below B.out) hxl1).mono ?_
  rintro e w17 ⟨v1_17, rfl, o, b⟩
  replace OW := hid (OW.out.below b)
  replace OG := hid (OG.out.below b)
  replace A0 := hid (A0.out.below b)
  have Z : Hid ((((((((((((((((((w.heap.size ≤ w.heap.size) ∧ w.heap.size ≤ w1.heap.size) ∧ w1.heap.size ≤ w2.heap.size) ∧ w2.heap.size ≤ w3.heap.size) ∧ w3.heap.size ≤ w4.heap.size) ∧ w4.heap.size ≤ w5.heap.size) ∧ w5.heap.size ≤ w6.heap.size) ∧ w6.heap.size ≤ w7.heap.size) ∧ w7.heap.size ≤ w8.heap.size) ∧ w8.heap.size ≤ w9.heap.size) ∧ w9.heap.size ≤ w10.heap.size) ∧ w10.heap.size ≤ w11.heap.size) ∧ w11.heap.size ≤ w12.heap.size) ∧ w12.heap.size ≤ w13.heap.size) ∧ w13.heap.size ≤ w14.heap.size) ∧ w14.heap.size ≤ w15.heap.size) ∧ w15.heap.size ≤ w16.heap.size) ∧ w16.heap.size ≤ w17.heap.size) := ⟨Z.out, b.size⟩
  have B : Hid (Below w.heap.size w w17) := B.out.trans (b.mono B.out.size)
  clear b
  have A1 := hid o
  clear o
  go_wp2_with fail
  refine (HI'.out v0_16 v1_17 _ A0.out.reads A1.out.reads).mono ?_
  rintro e w18 ⟨oh_18, rfl, o, b⟩
  replace OW := hid (OW.out.below b)
  replace OG := hid (OG.out.below b)
  replace A0 := hid (A0.out.below b)
  replace A1 := hid (A1.out.below b)
  have Z : Hid (((((((((((((((((((w.heap.size ≤ w.heap.size) ∧ w.heap.size ≤ w1.heap.size) ∧ w1.heap.size ≤ w2.heap.size) ∧ w2.heap.size ≤ w3.heap.size) ∧ w3.heap.size ≤ w4.heap.size) ∧ w4.heap.size ≤ w5.heap.size) ∧ w5.heap.size ≤ w6.heap.size) ∧ w6.heap.size ≤ w7.heap.size) ∧ w7.heap.size ≤ w8.heap.size) ∧ w8.heap.size ≤ w9.heap.size) ∧ w9.heap.size ≤ w10.heap.size) ∧ w10.heap.size ≤ w11.heap.size) ∧ w11.heap.size ≤ w12.heap.size) ∧ w12.heap.size ≤ w13.heap.size) ∧ w13.heap.size ≤ w14.heap.size) ∧ w14.heap.size ≤ w15.heap.size) ∧ w15.heap.size ≤ w16.heap.size) ∧ w16.heap.size ≤ w17.heap.size) ∧ w17.heap.size ≤ w18.heap.size) := ⟨Z.out, b.size⟩
  have B : Hid (Below w.heap.size w w18) := B.out.trans (b.mono B.out.size)
  clear b
  have OH := hid o
  clear o
  clear A0
  clear A1
  go_wp2_with fail
  refine (keqIntS_same _ _ ys0 _ OH.out.reads OW.out.reads).mono ?_
  rintro e w19 ⟨rfl, b⟩
  replace OW := hid (OW.out.below b)
  replace OG := hid (OG.out.below b)
  replace OH := hid (OH.out.below b)
  have Z : Hid ((((((((((((((((((((w.heap.size ≤ w.heap.size) ∧ w.heap.size ≤ w1.heap.size) ∧ w1.heap.size ≤ w2.heap.size) ∧ w2.heap.size ≤ w3.heap.size) ∧ w3.heap.size ≤ w4.heap.size) ∧ w4.heap.size ≤ w5.heap.size) ∧ w5.heap.size ≤ w6.heap.size) ∧ w6.heap.size ≤ w7.heap.size) ∧ w7.heap.size ≤ w8.heap.size) ∧ w8.heap.size ≤ w9.heap.size) ∧ w9.heap.size ≤ w10.heap.size) ∧ w10.heap.size ≤ w11.heap.size) ∧ w11.heap.size ≤ w12.heap.size) ∧ w12.heap.size ≤ w13.heap.size) ∧ w13.heap.size ≤ w14.heap.size) ∧ w14.heap.size ≤ w15.heap.size) ∧ w15.heap.size ≤ w16.heap.size) ∧ w16.heap.size ≤ w17.heap.size) ∧ w17.heap.size ≤ w18.heap.size) ∧ w18.heap.size ≤ w19.heap.size) := ⟨Z.out, b.size⟩
  have B : Hid (Below w.heap.size w w19) := B.out.trans (b.mono B.out.size)
  clear b
  go_wp2_with fail
  refine (kheldIntS_any _ ys0.length _ m0 _ OG.out.reads hy0 (by omega) (by omega) HM_m0.out).mono ?_
  rintro e w' ⟨rfl, hw⟩; obtain rfl := hw.symm
  go_wp2
  go_ret
  exact ⟨rfl, B.out⟩
end Go.Proofs.Ytpkngcamaahhdax
