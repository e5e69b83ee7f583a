/-
  The law FnExactArriveAll answers true at every argument, where both sides tell alike.
-/
import Derived.Test.YtflhlinkolbbiamKIntEq
import Derived.Test.YtflhlinkolbbiamKIntMark
import Derived.Test.YtflhlinkolbbiamKWayArg
import Derived.Test.YtflhlinkolbbiamKWayEq
import Derived.Test.YtflhlinkolbbiamKWayMark
import Derived.Test.YtflhlinkolbbiamKWaySz
import Derived.Test.YtflhlinkolbbiamKWayToS
import Derived.Deep.RegionHeld3
namespace Go.Proofs.Ytflhlinkolbbiam
open Go.RowKit

set_option maxHeartbeats 8000000 in
theorem FnExactArriveAll_law (a0 : Option Addr) (len0 cap0 : Nat) (xs0 : List WyEl) (n1 : Int) (w : World) (hrow0 : WyArg w a0 len0 cap0 xs0) (ys0 : List Int) (hy0 : ys0.length ≤ 1048576) (r1 : Int) (r2 : Bool)
    (HS : ∀ (v0 : Value) (w : World), WyReads w v0 xs0 → Calls Try.prog 17 #[v0, .int .i64 n1] w fun e w' => ∃ u0, e = .returned (.tuple #[u0, .int .i64 r1, .bool r2]) ∧ KOwn w.heap.size w'.heap.size w' u0 ys0 ∧ Below w.heap.size w w')
    (HI : ∀ (v0 : Value) (w : World), WyReads w v0 xs0 → Calls Try.prog 19 #[v0, .int .i64 n1] w fun e w' => ∃ u0, e = .returned (.tuple #[u0, .int .i64 r1, .bool r2]) ∧ KOwn w.heap.size w'.heap.size w' u0 ys0 ∧ Below w.heap.size w w') :
    Calls Try.prog 6 #[.slice a0 len0 cap0, .int .i64 n1] w fun e w' => e = .returned (.bool true) ∧ Below w.heap.size w w' := by
  have HS' := hid HS
  have HI' := hid HI
  clear HS HI
  by_cases hl0 : (len0 : Int) ≤ 1048576
  rotate_left
  · have hm : len0 ≤ maxLen := Nat.le_trans hrow0.2.1 hrow0.2.2.1
    clear HS' HI' hrow0
    go_enter Try.func6, Try.ntmps6
    go_wp2_with fail
    refine (szWayS_over _ a0 len0 cap0 _ (by omega) (by omega) (by omega) hm).mono ?_
    rintro e w' ⟨rfl, hw⟩; obtain rfl := hw.symm
    go_wp2
    go_ret
    refine ⟨rfl, ?_⟩
    first | exact Below.refl _ _ | go_grown
  have HR0 := hid (hrow0.reads (by omega))
  have hxl0 : xs0.length ≤ 1048576 := by rw [hrow0.1]; omega
  clear hrow0
  go_enter Try.func6, Try.ntmps6
  go_wp2_with fail
  refine (szWayS_at _ a0 len0 cap0 _ (by omega) (by omega) (by omega)).mono ?_
  rintro e w' ⟨rfl, hw⟩; obtain rfl := hw.symm
  have hd0 : decide (1048576 - (len0 : Int) < 0) = false := by simp; omega
  have Z : Hid (w.heap.size ≤ w.heap.size) := Nat.le_refl _
  have B : Hid (Below w.heap.size w w) := Below.refl _ _
  go_wp2_with fail
  refine (toWayS_any _ xs0 _ (HR0.out.below B.out) hxl0).mono ?_
  rintro e w1 ⟨v0_1, rfl, o, b⟩
  have Z : Hid ((w.heap.size ≤ w.heap.size) ∧ w.heap.size ≤ w1.heap.size) := ⟨Z.out, b.size⟩
  have B : Hid (Below w.heap.size w w1) := B.out.trans (b.mono B.out.size)
  clear b
  have A0 := hid o
  clear o
  go_wp2_with fail
  refine (HS'.out v0_1 _ A0.out.reads).mono ?_
  rintro e w2 ⟨ow_2, rfl, o, b⟩
  replace A0 := hid (A0.out.below b)
  have Z : Hid (((w.heap.size ≤ w.heap.size) ∧ w.heap.size ≤ w1.heap.size) ∧ w1.heap.size ≤ w2.heap.size) := ⟨Z.out, b.size⟩
  have B : Hid (Below w.heap.size w w2) := B.out.trans (b.mono B.out.size)
  clear b
  have OW := hid o
  clear o
  clear A0
  go_wp2_with fail
  refine (toWayS_any _ xs0 _ (HR0.out.below B.out) hxl0).mono ?_
  rintro e w3 ⟨v0_3, rfl, o, b⟩
  replace OW := hid (OW.out.below b)
  have Z : Hid ((((w.heap.size ≤ w.heap.size) ∧ w.heap.size ≤ w1.heap.size) ∧ w1.heap.size ≤ w2.heap.size) ∧ w2.heap.size ≤ w3.heap.size) := ⟨Z.out, b.size⟩
  have B : Hid (Below w.heap.size w w3) := B.out.trans (b.mono B.out.size)
  clear b
  have X0 := hid o
  clear o
  go_wp2_with fail
  refine (HI'.out v0_3 _ X0.out.reads).mono ?_
  rintro e w4 ⟨og_4, rfl, o, b⟩
  replace OW := hid (OW.out.below b)
  replace X0 := hid (X0.out.below b)
  have Z : Hid (((((w.heap.size ≤ w.heap.size) ∧ w.heap.size ≤ w1.heap.size) ∧ w1.heap.size ≤ w2.heap.size) ∧ w2.heap.size ≤ w3.heap.size) ∧ w3.heap.size ≤ w4.heap.size) := ⟨Z.out, b.size⟩
  have B : Hid (Below w.heap.size w w4) := B.out.trans (b.mono B.out.size)
  clear b
  have OG := hid o
  clear o
  go_wp2_with fail
  refine (keqIntS_same _ _ ys0 _ OG.out.reads OW.out.reads).mono ?_
  rintro e w5 ⟨rfl, b⟩
  replace OW := hid (OW.out.below b)
  replace X0 := hid (X0.out.below b)
  replace OG := hid (OG.out.below b)
  have Z : Hid ((((((w.heap.size ≤ w.heap.size) ∧ w.heap.size ≤ w1.heap.size) ∧ w1.heap.size ≤ w2.heap.size) ∧ w2.heap.size ≤ w3.heap.size) ∧ w3.heap.size ≤ w4.heap.size) ∧ w4.heap.size ≤ w5.heap.size) := ⟨Z.out, b.size⟩
  have B : Hid (Below w.heap.size w w5) := B.out.trans (b.mono B.out.size)
  clear b
  go_wp2_with fail
  refine (toWayS_any _ xs0 _ (HR0.out.below B.out) hxl0).mono ?_
  rintro e w6 ⟨v0_6, rfl, o, b⟩
  replace OW := hid (OW.out.below b)
  replace X0 := hid (X0.out.below b)
  replace OG := hid (OG.out.below b)
  have Z : Hid (((((((w.heap.size ≤ w.heap.size) ∧ w.heap.size ≤ w1.heap.size) ∧ w1.heap.size ≤ w2.heap.size) ∧ w2.heap.size ≤ w3.heap.size) ∧ w3.heap.size ≤ w4.heap.size) ∧ w4.heap.size ≤ w5.heap.size) ∧ w5.heap.size ≤ w6.heap.size) := ⟨Z.out, b.size⟩
  have B : Hid (Below w.heap.size w w6) := B.out.trans (b.mono B.out.size)
  clear b
  have A0 := hid o
  clear o
  go_wp2_with fail
  refine (eqWayS_same _ _ xs0 _ X0.out.reads A0.out.reads).mono ?_
  rintro e w7 ⟨rfl, b⟩
  replace OW := hid (OW.out.below b)
  replace X0 := hid (X0.out.below b)
  replace OG := hid (OG.out.below b)
  replace A0 := hid (A0.out.below b)
  have Z : Hid ((((((((w.heap.size ≤ w.heap.size) ∧ w.heap.size ≤ w1.heap.size) ∧ w1.heap.size ≤ w2.heap.size) ∧ w2.heap.size ≤ w3.heap.size) ∧ w3.heap.size ≤ w4.heap.size) ∧ w4.heap.size ≤ w5.heap.size) ∧ w5.heap.size ≤ w6.heap.size) ∧ w6.heap.size ≤ w7.heap.size) := ⟨Z.out, b.size⟩
  have B : Hid (Below w.heap.size w w7) := B.out.trans (b.mono B.out.size)
  clear b
  clear A0
  obtain ⟨k0, hm, k0_0, k0_1⟩ : ∃ m : Int, m = 1 + (2 * xs0.length : Nat) ∧ 0 ≤ m ∧ m ≤ 10000000 := ⟨_, rfl, by omega, by omega⟩
  have HM_k0 := hid hm
  clear hm
  go_wp2_with fail
  refine (markWayS_any _ _ _ xs0 _ k0 _ X0.out hxl0 (by omega) (by omega) HM_k0.out).mono ?_
  rintro e w8 ⟨rfl, o, b, on⟩
  have OW := hid (OW.out.only on (by have := Z.out; omega))
  have OG := hid (OG.out.only on (by have := Z.out; omega))
  have X0 := hid o
  have Z : Hid (((((((((w.heap.size ≤ w.heap.size) ∧ w.heap.size ≤ w1.heap.size) ∧ w1.heap.size ≤ w2.heap.size) ∧ w2.heap.size ≤ w3.heap.size) ∧ w3.heap.size ≤ w4.heap.size) ∧ w4.heap.size ≤ w5.heap.size) ∧ w5.heap.size ≤ w6.heap.size) ∧ w6.heap.size ≤ w7.heap.size) ∧ w7.heap.size ≤ w8.heap.size) := ⟨Z.out, b.size⟩
  have B : Hid (Below w.heap.size w w8) := B.out.trans (b.mono (by have := Z.out; omega))
  clear b o on
  go_wp2_with fail
  refine (keqIntS_same _ _ ys0 _ OG.out.reads OW.out.reads).mono ?_
  rintro e w9 ⟨rfl, b⟩
  replace OW := hid (OW.out.below b)
  replace X0 := hid (X0.out.below b)
  replace OG := hid (OG.out.below b)
  have Z : Hid ((((((((((w.heap.size ≤ w.heap.size) ∧ w.heap.size ≤ w1.heap.size) ∧ w1.heap.size ≤ w2.heap.size) ∧ w2.heap.size ≤ w3.heap.size) ∧ w3.heap.size ≤ w4.heap.size) ∧ w4.heap.size ≤ w5.heap.size) ∧ w5.heap.size ≤ w6.heap.size) ∧ w6.heap.size ≤ w7.heap.size) ∧ w7.heap.size ≤ w8.heap.size) ∧ w8.heap.size ≤ w9.heap.size) := ⟨Z.out, b.size⟩
  have B : Hid (Below w.heap.size w w9) := B.out.trans (b.mono B.out.size)
  clear b
  clear X0
  obtain ⟨m0, hm, m0_0, m0_1⟩ : ∃ m : Int, m = 1 + (ys0.length : Nat) ∧ 0 ≤ m ∧ m ≤ 10000000 := ⟨_, rfl, by omega, by omega⟩
  have HM_m0 := hid hm
  clear hm
  go_wp2_with fail
  refine (kmarkIntS_any _ _ _ ys0 _ m0 _ OG.out hy0 (by omega) (by omega) HM_m0.out).mono ?_
  rintro e w10 ⟨rfl, o, b, on⟩
  have OW := hid (OW.out.only on (by have := Z.out; omega))
  have OG := hid o
  have Z : Hid (((((((((((w.heap.size ≤ w.heap.size) ∧ w.heap.size ≤ w1.heap.size) ∧ w1.heap.size ≤ w2.heap.size) ∧ w2.heap.size ≤ w3.heap.size) ∧ w3.heap.size ≤ w4.heap.size) ∧ w4.heap.size ≤ w5.heap.size) ∧ w5.heap.size ≤ w6.heap.size) ∧ w6.heap.size ≤ w7.heap.size) ∧ w7.heap.size ≤ w8.heap.size) ∧ w8.heap.size ≤ w9.heap.size) ∧ w9.heap.size ≤ w10.heap.size) := ⟨Z.out, b.size⟩
  have B : Hid (Below w.heap.size w w10) := B.out.trans (b.mono (by have := Z.out; omega))
  clear b o on
  go_wp2_with fail
  refine (kheldIntS_any _ ys0.length _ m0 _ OG.out.reads hy0 (by omega) (by omega) HM_m0.out).mono ?_
  rintro e w' ⟨rfl, hw⟩; obtain rfl := hw.symm
  go_wp2_with fail
  refine (toWayS_any _ xs0 _ (HR0.out.below B.out) hxl0).mono ?_
  rintro e w11 ⟨v0_11, rfl, o, b⟩
  replace OW := hid (OW.out.below b)
  replace OG := hid (OG.out.below b)
  have Z : Hid ((((((((((((w.heap.size ≤ w.heap.size) ∧ w.heap.size ≤ w1.heap.size) ∧ w1.heap.size ≤ w2.heap.size) ∧ w2.heap.size ≤ w3.heap.size) ∧ w3.heap.size ≤ w4.heap.size) ∧ w4.heap.size ≤ w5.heap.size) ∧ w5.heap.size ≤ w6.heap.size) ∧ w6.heap.size ≤ w7.heap.size) ∧ w7.heap.size ≤ w8.heap.size) ∧ w8.heap.size ≤ w9.heap.size) ∧ w9.heap.size ≤ w10.heap.size) ∧ w10.heap.size ≤ w11.heap.size) := ⟨Z.out, b.size⟩
  have B : Hid (Below w.heap.size w w11) := B.out.trans (b.mono B.out.size)
  clear b
  have A0 := hid o
  clear o
  go_wp2_with fail
  refine (HI'.out v0_11 _ A0.out.reads).mono ?_
  rintro e w12 ⟨oh_12, rfl, o, b⟩
  replace OW := hid (OW.out.below b)
  replace OG := hid (OG.out.below b)
  replace A0 := hid (A0.out.below b)
  have Z : Hid (((((((((((((w.heap.size ≤ w.heap.size) ∧ w.heap.size ≤ w1.heap.size) ∧ w1.heap.size ≤ w2.heap.size) ∧ w2.heap.size ≤ w3.heap.size) ∧ w3.heap.size ≤ w4.heap.size) ∧ w4.heap.size ≤ w5.heap.size) ∧ w5.heap.size ≤ w6.heap.size) ∧ w6.heap.size ≤ w7.heap.size) ∧ w7.heap.size ≤ w8.heap.size) ∧ w8.heap.size ≤ w9.heap.size) ∧ w9.heap.size ≤ w10.heap.size) ∧ w10.heap.size ≤ w11.heap.size) ∧ w11.heap.size ≤ w12.heap.size) := ⟨Z.out, b.size⟩
  have B : Hid (Below w.heap.size w w12) := B.out.trans (b.mono B.out.size)
  clear b
  have OH := hid o
  clear o
  clear A0
  go_wp2_with fail
  refine (keqIntS_same _ _ ys0 _ OH.out.reads OW.out.reads).mono ?_
  rintro e w13 ⟨rfl, b⟩
  replace OW := hid (OW.out.below b)
  replace OG := hid (OG.out.below b)
  replace OH := hid (OH.out.below b)
  have Z : Hid ((((((((((((((w.heap.size ≤ w.heap.size) ∧ w.heap.size ≤ w1.heap.size) ∧ w1.heap.size ≤ w2.heap.size) ∧ w2.heap.size ≤ w3.heap.size) ∧ w3.heap.size ≤ w4.heap.size) ∧ w4.heap.size ≤ w5.heap.size) ∧ w5.heap.size ≤ w6.heap.size) ∧ w6.heap.size ≤ w7.heap.size) ∧ w7.heap.size ≤ w8.heap.size) ∧ w8.heap.size ≤ w9.heap.size) ∧ w9.heap.size ≤ w10.heap.size) ∧ w10.heap.size ≤ w11.heap.size) ∧ w11.heap.size ≤ w12.heap.size) ∧ w12.heap.size ≤ w13.heap.size) := ⟨Z.out, b.size⟩
  have B : Hid (Below w.heap.size w w13) := B.out.trans (b.mono B.out.size)
  clear b
  go_wp2_with fail
  refine (kheldIntS_any _ ys0.length _ m0 _ OG.out.reads hy0 (by omega) (by omega) HM_m0.out).mono ?_
  rintro e w' ⟨rfl, hw⟩; obtain rfl := hw.symm
  go_wp2
  go_ret
  exact ⟨rfl, B.out⟩
end Go.Proofs.Ytflhlinkolbbiam
