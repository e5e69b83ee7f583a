/-
  The law FnExactLastArrival answers true at every argument, where both sides tell alike.
-/
import Derived.Test.YtflhlinkolbbiamKIntArg
import Derived.Test.YtflhlinkolbbiamKIntEq
import Derived.Test.YtflhlinkolbbiamKIntToS
import Derived.Test.YtflhlinkolbbiamKWayArg
import Derived.Test.YtflhlinkolbbiamKWayEq
import Derived.Test.YtflhlinkolbbiamKWaySz
import Derived.Test.YtflhlinkolbbiamKWayToS
import Derived.Deep.RegionHeld3
namespace Go.Proofs.Ytflhlinkolbbiam
open Go.RowKit

set_option maxHeartbeats 8000000 in
theorem FnExactLastArrival_law (a0 : Option Addr) (len0 cap0 : Nat) (xs0 : List WyEl) (a1 : Option Addr) (len1 cap1 : Nat) (xs1 : List Int) (w : World) (hrow0 : WyArg w a0 len0 cap0 xs0) (hrow1 : KArg w a1 len1 cap1 xs1) (r0 : Int) (r1 : Bool)
    (HS : ∀ (v0 : Value) (v1 : Value) (w : World), WyReads w v0 xs0 → KReads w v1 xs1 → Calls Try.prog 24 #[v0, v1] w fun e w' => e = .returned (.tuple #[.int .i64 r0, .bool r1]) ∧ Below w.heap.size w w')
    (HI : ∀ (v0 : Value) (v1 : Value) (w : World), WyReads w v0 xs0 → KReads w v1 xs1 → Calls Try.prog 25 #[v0, v1] w fun e w' => e = .returned (.tuple #[.int .i64 r0, .bool r1]) ∧ Below w.heap.size w w') :
    Calls Try.prog 7 #[.slice a0 len0 cap0, .slice a1 len1 cap1] w fun e w' => e = .returned (.bool true) ∧ Below w.heap.size w w' := by
  have HS' := hid HS
  have HI' := hid HI
  clear HS HI
  by_cases hl1 : (len1 : Int) ≤ 1048576
  rotate_left
  · have hm : len1 ≤ maxLen := Nat.le_trans hrow1.2.1 hrow1.2.2.1
    unfold maxLen at hm
    have hd : decide ((len1 : Int) > 1048576) = true := by simp; omega
    clear HS' HI' hrow0 hrow1
    go_enter Try.func7, Try.ntmps7
    go_wp2
    go_ret
    exact ⟨rfl, Below.refl _ _⟩
  have hdI1 : decide ((len1 : Int) > 1048576) = false := by simp; omega
  by_cases hl0 : (len0 : Int) ≤ 1048576
  rotate_left
  · have hm : len0 ≤ maxLen := Nat.le_trans hrow0.2.1 hrow0.2.2.1
    clear HS' HI' hrow0 hrow1
    go_enter Try.func7, Try.ntmps7
    go_wp2_with fail
    refine (szWayS_over _ a0 len0 cap0 _ (by omega) (by omega) (by omega) hm).mono ?_
    rintro e w' ⟨rfl, hw⟩; obtain rfl := hw.symm
    go_wp2
    go_ret
    refine ⟨rfl, ?_⟩
    first | exact Below.refl _ _ | go_grown
  have HR0 := hid (hrow0.reads (by omega))
  have hxl0 : xs0.length ≤ 1048576 := by rw [hrow0.1]; omega
  clear hrow0
  have HR1 := hid (hrow1.reads (by omega))
  have hxl1 : xs1.length ≤ 1048576 := by rw [hrow1.1]; omega
  clear hrow1
  go_enter Try.func7, Try.ntmps7
  go_wp2_with fail
  refine (szWayS_at _ a0 len0 cap0 _ (by omega) (by omega) (by omega)).mono ?_
  rintro e w' ⟨rfl, hw⟩; obtain rfl := hw.symm
  have hd0 : decide (1048576 - (len0 : Int) < 0) = false := by simp; omega
  have Z : Hid (w.heap.size ≤ w.heap.size) := Nat.le_refl _
  have B : Hid (Below w.heap.size w w) := Below.refl _ _
  go_wp2_with fail
  refine (toWayS_any _ xs0 _ (HR0.out.below B.out) hxl0).mono ?_
  rintro e w1 ⟨v0_1, rfl, o, b⟩
  have Z : Hid ((w.heap.size ≤ w.heap.size) ∧ w.heap.size ≤ w1.heap.size) := ⟨Z.out, b.size⟩
  have B : Hid (Below w.heap.size w w1) := B.out.trans (b.mono B.out.size)
  clear b
  have A0 := hid o
  clear o
  go_wp2_with fail
  refine (ktoIntS_any _ xs1 _ (HR1.out.below B.out) hxl1).mono ?_
  rintro e w2 ⟨v1_2, rfl, o, b⟩
  replace A0 := hid (A0.out.below b)
  have Z : Hid (((w.heap.size ≤ w.heap.size) ∧ w.heap.size ≤ w1.heap.size) ∧ w1.heap.size ≤ w2.heap.size) := ⟨Z.out, b.size⟩
  have B : Hid (Below w.heap.size w w2) := B.out.trans (b.mono B.out.size)
  clear b
  have A1 := hid o
  clear o
  go_wp2_with fail
  refine (HS'.out v0_1 v1_2 _ A0.out.reads A1.out.reads).mono ?_
  rintro e w3 ⟨rfl, b⟩
  replace A0 := hid (A0.out.below b)
  replace A1 := hid (A1.out.below b)
  have Z : Hid ((((w.heap.size ≤ w.heap.size) ∧ w.heap.size ≤ w1.heap.size) ∧ w1.heap.size ≤ w2.heap.size) ∧ w2.heap.size ≤ w3.heap.size) := ⟨Z.out, b.size⟩
  have B : Hid (Below w.heap.size w w3) := B.out.trans (b.mono B.out.size)
  clear b
  clear A0
  clear A1
  go_wp2_with fail
  refine (toWayS_any _ xs0 _ (HR0.out.below B.out) hxl0).mono ?_
  rintro e w4 ⟨v0_4, rfl, o, b⟩
  have Z : Hid (((((w.heap.size ≤ w.heap.size) ∧ w.heap.size ≤ w1.heap.size) ∧ w1.heap.size ≤ w2.heap.size) ∧ w2.heap.size ≤ w3.heap.size) ∧ w3.heap.size ≤ w4.heap.size) := ⟨Z.out, b.size⟩
  have B : Hid (Below w.heap.size w w4) := B.out.trans (b.mono B.out.size)
  clear b
  have X0 := hid o
  clear o
  go_wp2_with fail
  refine (ktoIntS_any _ xs1 _ (HR1.out.below B.out) hxl1).mono ?_
  rintro e w5 ⟨v1_5, rfl, o, b⟩
  replace X0 := hid (X0.out.below b)
  have Z : Hid ((((((w.heap.size ≤ w.heap.size) ∧ w.heap.size ≤ w1.heap.size) ∧ w1.heap.size ≤ w2.heap.size) ∧ w2.heap.size ≤ w3.heap.size) ∧ w3.heap.size ≤ w4.heap.size) ∧ w4.heap.size ≤ w5.heap.size) := ⟨Z.out, b.size⟩
  have B : Hid (Below w.heap.size w w5) := B.out.trans (b.mono B.out.size)
  clear b
  have X1 := hid o
  clear o
  go_wp2_with fail
  refine (HI'.out v0_4 v1_5 _ X0.out.reads X1.out.reads).mono ?_
  rintro e w6 ⟨rfl, b⟩
  replace X0 := hid (X0.out.below b)
  replace X1 := hid (X1.out.below b)
  have Z : Hid (((((((w.heap.size ≤ w.heap.size) ∧ w.heap.size ≤ w1.heap.size) ∧ w1.heap.size ≤ w2.heap.size) ∧ w2.heap.size ≤ w3.heap.size) ∧ w3.heap.size ≤ w4.heap.size) ∧ w4.heap.size ≤ w5.heap.size) ∧ w5.heap.size ≤ w6.heap.size) := ⟨Z.out, b.size⟩
  have B : Hid (Below w.heap.size w w6) := B.out.trans (b.mono B.out.size)
  clear b
  go_wp2_with fail
  refine (toWayS_any _ xs0 _ (HR0.out.below B.out) hxl0).mono ?_
  rintro e w7 ⟨v0_7, rfl, o, b⟩
  replace X0 := hid (X0.out.below b)
  replace X1 := hid (X1.out.below b)
  have Z : Hid ((((((((w.heap.size ≤ w.heap.size) ∧ w.heap.size ≤ w1.heap.size) ∧ w1.heap.size ≤ w2.heap.size) ∧ w2.heap.size ≤ w3.heap.size) ∧ w3.heap.size ≤ w4.heap.size) ∧ w4.heap.size ≤ w5.heap.size) ∧ w5.heap.size ≤ w6.heap.size) ∧ w6.heap.size ≤ w7.heap.size) := ⟨Z.out, b.size⟩
  have B : Hid (Below w.heap.size w w7) := B.out.trans (b.mono B.out.size)
  clear b
  have A0 := hid o
  clear o
  go_wp2_with fail
  refine (eqWayS_same _ _ xs0 _ X0.out.reads A0.out.reads).mono ?_
  rintro e w8 ⟨rfl, b⟩
  replace X0 := hid (X0.out.below b)
  replace X1 := hid (X1.out.below b)
  replace A0 := hid (A0.out.below b)
  have Z : Hid (((((((((w.heap.size ≤ w.heap.size) ∧ w.heap.size ≤ w1.heap.size) ∧ w1.heap.size ≤ w2.heap.size) ∧ w2.heap.size ≤ w3.heap.size) ∧ w3.heap.size ≤ w4.heap.size) ∧ w4.heap.size ≤ w5.heap.size) ∧ w5.heap.size ≤ w6.heap.size) ∧ w6.heap.size ≤ w7.heap.size) ∧ w7.heap.size ≤ w8.heap.size) := ⟨Z.out, b.size⟩
  have B : Hid (Below w.heap.size w w8) := B.out.trans (b.mono B.out.size)
  clear b
  clear A0
  go_wp2_with fail
  refine (ktoIntS_any _ xs1 _ (HR1.out.below B.out) hxl1).mono ?_
  rintro e w9 ⟨v1_9, rfl, o, b⟩
  replace X0 := hid (X0.out.below b)
  replace X1 := hid (X1.out.below b)
  have Z : Hid ((((((((((w.heap.size ≤ w.heap.size) ∧ w.heap.size ≤ w1.heap.size) ∧ w1.heap.size ≤ w2.heap.size) ∧ w2.heap.size ≤ w3.heap.size) ∧ w3.heap.size ≤ w4.heap.size) ∧ w4.heap.size ≤ w5.heap.size) ∧ w5.heap.size ≤ w6.heap.size) ∧ w6.heap.size ≤ w7.heap.size) ∧ w7.heap.size ≤ w8.heap.size) ∧ w8.heap.size ≤ w9.heap.size) := ⟨Z.out, b.size⟩
  have B : Hid (Below w.heap.size w w9) := B.out.trans (b.mono B.out.size)
  clear b
  have A1 := hid o
  clear o
  go_wp2_with fail
  refine (keqIntS_same _ _ xs1 _ X1.out.reads A1.out.reads).mono ?_
  rintro e w10 ⟨rfl, b⟩
  replace X0 := hid (X0.out.below b)
  replace X1 := hid (X1.out.below b)
  replace A1 := hid (A1.out.below b)
  have Z : Hid (((((((((((w.heap.size ≤ w.heap.size) ∧ w.heap.size ≤ w1.heap.size) ∧ w1.heap.size ≤ w2.heap.size) ∧ w2.heap.size ≤ w3.heap.size) ∧ w3.heap.size ≤ w4.heap.size) ∧ w4.heap.size ≤ w5.heap.size) ∧ w5.heap.size ≤ w6.heap.size) ∧ w6.heap.size ≤ w7.heap.size) ∧ w7.heap.size ≤ w8.heap.size) ∧ w8.heap.size ≤ w9.heap.size) ∧ w9.heap.size ≤ w10.heap.size) := ⟨Z.out, b.size⟩
  have B : Hid (Below w.heap.size w w10) := B.out.trans (b.mono B.out.size)
  clear b
  clear A1
  go_wp2
  go_ret
  exact ⟨rfl, B.out⟩
end Go.Proofs.Ytflhlinkolbbiam
