/-
  The law FnExactLeastSpan answers true at every argument, where both sides tell alike.
-/
import Derived.Test.YtflhlinkolbbiamKIntArg
import Derived.Test.YtflhlinkolbbiamKIntEq
import Derived.Test.YtflhlinkolbbiamKIntToS
import Derived.Deep.RegionHeld3
namespace Go.Proofs.Ytflhlinkolbbiam
open Go.RowKit

set_option maxHeartbeats 8000000 in
theorem FnExactLeastSpan_law (a0 : Option Addr) (len0 cap0 : Nat) (xs0 : List Int) (n1 : Int) (w : World) (hrow0 : KArg w a0 len0 cap0 xs0) (r0 : Int) (r1 : Bool)
    (HS : ∀ (v0 : Value) (w : World), KReads w v0 xs0 → Calls Try.prog 14 #[v0, .int .i64 n1] w fun e w' => e = .returned (.tuple #[.int .i64 r0, .bool r1]) ∧ Below w.heap.size w w')
    (HI : ∀ (v0 : Value) (w : World), KReads w v0 xs0 → Calls Try.prog 15 #[v0, .int .i64 n1] w fun e w' => e = .returned (.tuple #[.int .i64 r0, .bool r1]) ∧ Below w.heap.size w w') :
    Calls Try.prog 5 #[.slice a0 len0 cap0, .int .i64 n1] w fun e w' => e = .returned (.bool true) ∧ Below w.heap.size w w' := by
  have HS' := hid HS
  have HI' := hid HI
  clear HS HI
  by_cases hl0 : (len0 : Int) ≤ 1048576
  rotate_left
  · have hm : len0 ≤ maxLen := Nat.le_trans hrow0.2.1 hrow0.2.2.1
    unfold maxLen at hm
    have hd : decide ((len0 : Int) > 1048576) = true := by simp; omega
    clear HS' HI' hrow0
    go_enter Try.func5, Try.ntmps5
    go_wp2
    go_ret
    exact ⟨rfl, Below.refl _ _⟩
  have hdI0 : decide ((len0 : Int) > 1048576) = false := by simp; omega
  have HR0 := hid (hrow0.reads (by omega))
  have hxl0 : xs0.length ≤ 1048576 := by rw [hrow0.1]; omega
  clear hrow0
  go_enter Try.func5, Try.ntmps5
  have Z : Hid (w.heap.size ≤ w.heap.size) := Nat.le_refl _
  have B : Hid (Below w.heap.size w w) := Below.refl _ _
  go_wp2_with fail
  refine (ktoIntS_any _ xs0 _ (HR0.out.below B.out) hxl0).mono ?_
  rintro e w1 ⟨v0_1, rfl, o, b⟩
  have Z : Hid ((w.heap.size ≤ w.heap.size) ∧ w.heap.size ≤ w1.heap.size) := ⟨Z.out, b.size⟩
  have B : Hid (Below w.heap.size w w1) := B.out.trans (b.mono B.out.size)
  clear b
  have A0 := hid o
  clear o
  go_wp2_with fail
  refine (HS'.out v0_1 _ A0.out.reads).mono ?_
  rintro e w2 ⟨rfl, b⟩
  replace A0 := hid (A0.out.below b)
  have Z : Hid (((w.heap.size ≤ w.heap.size) ∧ w.heap.size ≤ w1.heap.size) ∧ w1.heap.size ≤ w2.heap.size) := ⟨Z.out, b.size⟩
  have B : Hid (Below w.heap.size w w2) := B.out.trans (b.mono B.out.size)
  clear b
  clear A0
  go_wp2_with fail
  refine (ktoIntS_any _ xs0 _ (HR0.out.below B.out) hxl0).mono ?_
  rintro e w3 ⟨v0_3, rfl, o, b⟩
  have Z : Hid ((((w.heap.size ≤ w.heap.size) ∧ w.heap.size ≤ w1.heap.size) ∧ w1.heap.size ≤ w2.heap.size) ∧ w2.heap.size ≤ w3.heap.size) := ⟨Z.out, b.size⟩
  have B : Hid (Below w.heap.size w w3) := B.out.trans (b.mono B.out.size)
  clear b
  have X0 := hid o
  clear o
  go_wp2_with fail
  refine (HI'.out v0_3 _ X0.out.reads).mono ?_
  rintro e w4 ⟨rfl, b⟩
  replace X0 := hid (X0.out.below b)
  have Z : Hid (((((w.heap.size ≤ w.heap.size) ∧ w.heap.size ≤ w1.heap.size) ∧ w1.heap.size ≤ w2.heap.size) ∧ w2.heap.size ≤ w3.heap.size) ∧ w3.heap.size ≤ w4.heap.size) := ⟨Z.out, b.size⟩
  have B : Hid (Below w.heap.size w w4) := B.out.trans (b.mono B.out.size)
  clear b
  go_wp2_with fail
  refine (ktoIntS_any _ xs0 _ (HR0.out.below B.out) hxl0).mono ?_
  rintro e w5 ⟨v0_5, rfl, o, b⟩
  replace X0 := hid (X0.out.below b)
  have Z : Hid ((((((w.heap.size ≤ w.heap.size) ∧ w.heap.size ≤ w1.heap.size) ∧ w1.heap.size ≤ w2.heap.size) ∧ w2.heap.size ≤ w3.heap.size) ∧ w3.heap.size ≤ w4.heap.size) ∧ w4.heap.size ≤ w5.heap.size) := ⟨Z.out, b.size⟩
  have B : Hid (Below w.heap.size w w5) := B.out.trans (b.mono B.out.size)
  clear b
  have A0 := hid o
  clear o
  go_wp2_with fail
  refine (keqIntS_same _ _ xs0 _ X0.out.reads A0.out.reads).mono ?_
  rintro e w6 ⟨rfl, b⟩
  replace X0 := hid (X0.out.below b)
  replace A0 := hid (A0.out.below b)
  have Z : Hid (((((((w.heap.size ≤ w.heap.size) ∧ w.heap.size ≤ w1.heap.size) ∧ w1.heap.size ≤ w2.heap.size) ∧ w2.heap.size ≤ w3.heap.size) ∧ w3.heap.size ≤ w4.heap.size) ∧ w4.heap.size ≤ w5.heap.size) ∧ w5.heap.size ≤ w6.heap.size) := ⟨Z.out, b.size⟩
  have B : Hid (Below w.heap.size w w6) := B.out.trans (b.mono B.out.size)
  clear b
  clear A0
  go_wp2
  go_ret
  exact ⟨rfl, B.out⟩
end Go.Proofs.Ytflhlinkolbbiam
