/-
  The law FnExactConforms answers true at every argument, where both sides tell alike.
-/
import Derived.Test.YtcieefggijjekazKIntArg
import Derived.Test.YtcieefggijjekazKIntEq
import Derived.Test.YtcieefggijjekazKIntToS
import Derived.Deep.RegionHeld3
namespace Go.Proofs.Ytcieefggijjekaz
open Go.RowKit

set_option maxHeartbeats 8000000 in
theorem FnExactConforms_law (n0 : Int) (n1 : Int) (a2 : Option Addr) (len2 cap2 : Nat) (xs2 : List Int) (w : World) (hrow2 : KArg w a2 len2 cap2 xs2) (r0 : Bool) (r1 : Bool)
    (HS : ∀ (v2 : Value) (w : World), KReads w v2 xs2 → Calls Try.prog 18 #[.int .i64 n0, .int .i64 n1, v2] w fun e w' => e = .returned (.tuple #[.bool r0, .bool r1]) ∧ Below w.heap.size w w')
    (HI : ∀ (v2 : Value) (w : World), KReads w v2 xs2 → Calls Try.prog 19 #[.int .i64 n0, .int .i64 n1, v2] w fun e w' => e = .returned (.tuple #[.bool r0, .bool r1]) ∧ Below w.heap.size w w') :
    Calls Try.prog 5 #[.int .i64 n0, .int .i64 n1, .slice a2 len2 cap2] w fun e w' => e = .returned (.bool true) ∧ Below w.heap.size w w' := by
  have HS' := hid HS
  have HI' := hid HI
  clear HS HI
  by_cases hl2 : (len2 : Int) ≤ 1048576
  rotate_left
  · have hm : len2 ≤ maxLen := Nat.le_trans hrow2.2.1 hrow2.2.2.1
    unfold maxLen at hm
    have hd : decide ((len2 : Int) > 1048576) = true := by simp; omega
    clear HS' HI' hrow2
    go_enter Try.func5, Try.ntmps5
    go_wp2
    go_ret
    exact ⟨rfl, Below.refl _ _⟩
  have hdI2 : decide ((len2 : Int) > 1048576) = false := by simp; omega
  have HR2 := hid (hrow2.reads (by omega))
  have hxl2 : xs2.length ≤ 1048576 := by rw [hrow2.1]; omega
  clear hrow2
  go_enter Try.func5, Try.ntmps5
  have Z : Hid (w.heap.size ≤ w.heap.size) := Nat.le_refl _
  have B : Hid (Below w.heap.size w w) := Below.refl _ _
  go_wp2_with fail
  refine (ktoIntS_any _ xs2 _ (HR2.out.below B.out) hxl2).mono ?_
  rintro e w1 ⟨v2_1, rfl, o, b⟩
  have Z : Hid ((w.heap.size ≤ w.heap.size) ∧ w.heap.size ≤ w1.heap.size) := ⟨Z.out, b.size⟩
  have B : Hid (Below w.heap.size w w1) := B.out.trans (b.mono B.out.size)
  clear b
  have A2 := hid o
  clear o
  go_wp2_with fail
  refine (HS'.out v2_1 _ A2.out.reads).mono ?_
  rintro e w2 ⟨rfl, b⟩
  replace A2 := hid (A2.out.below b)
  have Z : Hid (((w.heap.size ≤ w.heap.size) ∧ w.heap.size ≤ w1.heap.size) ∧ w1.heap.size ≤ w2.heap.size) := ⟨Z.out, b.size⟩
  have B : Hid (Below w.heap.size w w2) := B.out.trans (b.mono B.out.size)
  clear b
  clear A2
  go_wp2_with fail
  refine (ktoIntS_any _ xs2 _ (HR2.out.below B.out) hxl2).mono ?_
  rintro e w3 ⟨v2_3, rfl, o, b⟩
  have Z : Hid ((((w.heap.size ≤ w.heap.size) ∧ w.heap.size ≤ w1.heap.size) ∧ w1.heap.size ≤ w2.heap.size) ∧ w2.heap.size ≤ w3.heap.size) := ⟨Z.out, b.size⟩
  have B : Hid (Below w.heap.size w w3) := B.out.trans (b.mono B.out.size)
  clear b
  have X2 := hid o
  clear o
  go_wp2_with fail
  refine (HI'.out v2_3 _ X2.out.reads).mono ?_
  rintro e w4 ⟨rfl, b⟩
  replace X2 := hid (X2.out.below b)
  have Z : Hid (((((w.heap.size ≤ w.heap.size) ∧ w.heap.size ≤ w1.heap.size) ∧ w1.heap.size ≤ w2.heap.size) ∧ w2.heap.size ≤ w3.heap.size) ∧ w3.heap.size ≤ w4.heap.size) := ⟨Z.out, b.size⟩
  have B : Hid (Below w.heap.size w w4) := B.out.trans (b.mono B.out.size)
  clear b
  go_wp2_with fail
  refine (ktoIntS_any _ xs2 _ (HR2.out.below B.out) hxl2).mono ?_
  rintro e w5 ⟨v2_5, rfl, o, b⟩
  replace X2 := hid (X2.out.below b)
  have Z : Hid ((((((w.heap.size ≤ w.heap.size) ∧ w.heap.size ≤ w1.heap.size) ∧ w1.heap.size ≤ w2.heap.size) ∧ w2.heap.size ≤ w3.heap.size) ∧ w3.heap.size ≤ w4.heap.size) ∧ w4.heap.size ≤ w5.heap.size) := ⟨Z.out, b.size⟩
  have B : Hid (Below w.heap.size w w5) := B.out.trans (b.mono B.out.size)
  clear b
  have A2 := hid o
  clear o
  go_wp2_with fail
  refine (keqIntS_same _ _ xs2 _ X2.out.reads A2.out.reads).mono ?_
  rintro e w6 ⟨rfl, b⟩
  replace X2 := hid (X2.out.below b)
  replace A2 := hid (A2.out.below b)
  have Z : Hid (((((((w.heap.size ≤ w.heap.size) ∧ w.heap.size ≤ w1.heap.size) ∧ w1.heap.size ≤ w2.heap.size) ∧ w2.heap.size ≤ w3.heap.size) ∧ w3.heap.size ≤ w4.heap.size) ∧ w4.heap.size ≤ w5.heap.size) ∧ w5.heap.size ≤ w6.heap.size) := ⟨Z.out, b.size⟩
  have B : Hid (Below w.heap.size w w6) := B.out.trans (b.mono B.out.size)
  clear b
  clear A2
  go_wp2
  go_ret
  exact ⟨rfl, B.out⟩
end Go.Proofs.Ytcieefggijjekaz
