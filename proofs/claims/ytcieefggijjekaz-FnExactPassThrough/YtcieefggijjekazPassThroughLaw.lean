/-
  The law FnExactPassThrough answers true at every argument, where both sides tell alike.
-/
import Derived.Test.YtcieefggijjekazKIntArg
import Derived.Test.YtcieefggijjekazKIntEq
import Derived.Test.YtcieefggijjekazKIntMark
import Derived.Test.YtcieefggijjekazKIntToS
import Derived.Test.YtcieefggijjekazKApart
import Derived.Deep.RegionHeld3
namespace Go.Proofs.Ytcieefggijjekaz
open Go.RowKit

set_option maxHeartbeats 8000000 in
theorem FnExactPassThrough_law (a0 : Option Addr) (len0 cap0 : Nat) (xs0 : List Int) (n1 : Int) (w : World) (hrow0 : KArg w a0 len0 cap0 xs0) (ys0 : List Int) (hy0 : ys0.length ≤ 1048576) (ys1 : List Int) (hy1 : ys1.length ≤ 1048576) (r2 : Bool)
    (HS : ∀ (v0 : Value) (w : World), KReads w v0 xs0 → Calls Try.prog 22 #[v0, .int .i64 n1] w fun e w' => ∃ u0 u1, e = .returned (.tuple #[u0, u1, .bool r2]) ∧ KOwn w.heap.size w'.heap.size w' u0 ys0 ∧ KOwn w.heap.size w'.heap.size w' u1 ys1 ∧ Apart7 u0 u1 ∧ Below w.heap.size w w')
    (HI : ∀ (v0 : Value) (w : World), KReads w v0 xs0 → Calls Try.prog 23 #[v0, .int .i64 n1] w fun e w' => ∃ u0 u1, e = .returned (.tuple #[u0, u1, .bool r2]) ∧ KOwn w.heap.size w'.heap.size w' u0 ys0 ∧ KOwn w.heap.size w'.heap.size w' u1 ys1 ∧ Apart7 u0 u1 ∧ Below w.heap.size w w') :
    Calls Try.prog 7 #[.slice a0 len0 cap0, .int .i64 n1] w fun e w' => e = .returned (.bool true) ∧ Below w.heap.size w w' := by
  have HS' := hid HS
  have HI' := hid HI
  clear HS HI
  by_cases hl0 : (len0 : Int) ≤ 1048576
  rotate_left
  · have hm : len0 ≤ maxLen := Nat.le_trans hrow0.2.1 hrow0.2.2.1
    unfold maxLen at hm
    have hd : decide ((len0 : Int) > 1048576) = true := by simp; omega
    clear HS' HI' hrow0
    go_enter Try.func7, Try.ntmps7
    go_wp2
    go_ret
    exact ⟨rfl, Below.refl _ _⟩
  have hdI0 : decide ((len0 : Int) > 1048576) = false := by simp; omega
  have HR0 := hid (hrow0.reads (by omega))
  have hxl0 : xs0.length ≤ 1048576 := by rw [hrow0.1]; omega
  clear hrow0
  go_enter Try.func7, Try.ntmps7
  have Z : Hid (w.heap.size ≤ w.heap.size) := Nat.le_refl _
  have B : Hid (Below w.heap.size w w) := Below.refl _ _
  go_wp2_with fail
  refine (ktoIntS_any _ xs0 _ (HR0.out.below B.out) hxl0).mono ?_
  rintro e w1 ⟨v0_1, rfl, o, b⟩
  have Z : Hid ((w.heap.size ≤ w.heap.size) ∧ w.heap.size ≤ w1.heap.size) := ⟨Z.out, b.size⟩
  have B : Hid (Below w.heap.size w w1) := B.out.trans (b.mono B.out.size)
  clear b
  have A0 := hid o
  clear o
  go_wp2_with fail
  refine (HS'.out v0_1 _ A0.out.reads).mono ?_
  rintro e w2 ⟨ow0_2, ow1_2, rfl, o0, o1, ap, b⟩
  replace A0 := hid (A0.out.below b)
  have Z : Hid (((w.heap.size ≤ w.heap.size) ∧ w.heap.size ≤ w1.heap.size) ∧ w1.heap.size ≤ w2.heap.size) := ⟨Z.out, b.size⟩
  have B : Hid (Below w.heap.size w w2) := B.out.trans (b.mono B.out.size)
  clear b
  obtain ⟨l0OW, e0OW, l1OW, e1OW, hz, k0, k1⟩ := KOwn.apart o0 o1 ap (by have := Z.out; omega)
  have Z : Hid ((((w.heap.size ≤ w.heap.size) ∧ w.heap.size ≤ w1.heap.size) ∧ w1.heap.size ≤ w2.heap.size) ∧ ((w1.heap.size ≤ l0OW ∧ l0OW ≤ e0OW ∧ e0OW ≤ w2.heap.size) ∧ (w1.heap.size ≤ l1OW ∧ l1OW ≤ e1OW ∧ e1OW ≤ w2.heap.size) ∧ (e0OW ≤ l1OW ∨ e1OW ≤ l0OW))) := ⟨Z.out, hz⟩
  have OW0 := hid k0
  have OW1 := hid k1
  clear o0 o1 ap hz k0 k1
  clear A0
  go_wp2_with fail
  refine (ktoIntS_any _ xs0 _ (HR0.out.below B.out) hxl0).mono ?_
  rintro e w3 ⟨v0_3, rfl, o, b⟩
  replace OW0 := hid (OW0.out.below b)
  replace OW1 := hid (OW1.out.below b)
  have Z : Hid (((((w.heap.size ≤ w.heap.size) ∧ w.heap.size ≤ w1.heap.size) ∧ w1.heap.size ≤ w2.heap.size) ∧ ((w1.heap.size ≤ l0OW ∧ l0OW ≤ e0OW ∧ e0OW ≤ w2.heap.size) ∧ (w1.heap.size ≤ l1OW ∧ l1OW ≤ e1OW ∧ e1OW ≤ w2.heap.size) ∧ (e0OW ≤ l1OW ∨ e1OW ≤ l0OW))) ∧ w2.heap.size ≤ w3.heap.size) := ⟨Z.out, b.size⟩
  have B : Hid (Below w.heap.size w w3) := B.out.trans (b.mono B.out.size)
  clear b
  have X0 := hid o
  clear o
  go_wp2_with fail
  refine (HI'.out v0_3 _ X0.out.reads).mono ?_
  rintro e w4 ⟨og0_4, og1_4, rfl, o0, o1, ap, b⟩
  replace OW0 := hid (OW0.out.below b)
  replace OW1 := hid (OW1.out.below b)
  replace X0 := hid (X0.out.below b)
  have Z : Hid ((((((w.heap.size ≤ w.heap.size) ∧ w.heap.size ≤ w1.heap.size) ∧ w1.heap.size ≤ w2.heap.size) ∧ ((w1.heap.size ≤ l0OW ∧ l0OW ≤ e0OW ∧ e0OW ≤ w2.heap.size) ∧ (w1.heap.size ≤ l1OW ∧ l1OW ≤ e1OW ∧ e1OW ≤ w2.heap.size) ∧ (e0OW ≤ l1OW ∨ e1OW ≤ l0OW))) ∧ w2.heap.size ≤ w3.heap.size) ∧ w3.heap.size ≤ w4.heap.size) := ⟨Z.out, b.size⟩
  have B : Hid (Below w.heap.size w w4) := B.out.trans (b.mono B.out.size)
  clear b
  obtain ⟨l0OG, e0OG, l1OG, e1OG, hz, k0, k1⟩ := KOwn.apart o0 o1 ap (by have := Z.out; omega)
  have Z : Hid (((((((w.heap.size ≤ w.heap.size) ∧ w.heap.size ≤ w1.heap.size) ∧ w1.heap.size ≤ w2.heap.size) ∧ ((w1.heap.size ≤ l0OW ∧ l0OW ≤ e0OW ∧ e0OW ≤ w2.heap.size) ∧ (w1.heap.size ≤ l1OW ∧ l1OW ≤ e1OW ∧ e1OW ≤ w2.heap.size) ∧ (e0OW ≤ l1OW ∨ e1OW ≤ l0OW))) ∧ w2.heap.size ≤ w3.heap.size) ∧ w3.heap.size ≤ w4.heap.size) ∧ ((w3.heap.size ≤ l0OG ∧ l0OG ≤ e0OG ∧ e0OG ≤ w4.heap.size) ∧ (w3.heap.size ≤ l1OG ∧ l1OG ≤ e1OG ∧ e1OG ≤ w4.heap.size) ∧ (e0OG ≤ l1OG ∨ e1OG ≤ l0OG))) := ⟨Z.out, hz⟩
  have OG0 := hid k0
  have OG1 := hid k1
  clear o0 o1 ap hz k0 k1
  go_wp2_with fail
  refine (keqIntS_same _ _ ys0 _ OG0.out.reads OW0.out.reads).mono ?_
  rintro e w5 ⟨rfl, b⟩
  replace OW0 := hid (OW0.out.below b)
  replace OW1 := hid (OW1.out.below b)
  replace X0 := hid (X0.out.below b)
  replace OG0 := hid (OG0.out.below b)
  replace OG1 := hid (OG1.out.below b)
  have Z : Hid ((((((((w.heap.size ≤ w.heap.size) ∧ w.heap.size ≤ w1.heap.size) ∧ w1.heap.size ≤ w2.heap.size) ∧ ((w1.heap.size ≤ l0OW ∧ l0OW ≤ e0OW ∧ e0OW ≤ w2.heap.size) ∧ (w1.heap.size ≤ l1OW ∧ l1OW ≤ e1OW ∧ e1OW ≤ w2.heap.size) ∧ (e0OW ≤ l1OW ∨ e1OW ≤ l0OW))) ∧ w2.heap.size ≤ w3.heap.size) ∧ w3.heap.size ≤ w4.heap.size) ∧ ((w3.heap.size ≤ l0OG ∧ l0OG ≤ e0OG ∧ e0OG ≤ w4.heap.size) ∧ (w3.heap.size ≤ l1OG ∧ l1OG ≤ e1OG ∧ e1OG ≤ w4.heap.size) ∧ (e0OG ≤ l1OG ∨ e1OG ≤ l0OG))) ∧ w4.heap.size ≤ w5.heap.size) := ⟨Z.out, b.size⟩
  have B : Hid (Below w.heap.size w w5) := B.out.trans (b.mono B.out.size)
  clear b
  go_wp2_with fail
  refine (keqIntS_same _ _ ys1 _ OG1.out.reads OW1.out.reads).mono ?_
  rintro e w6 ⟨rfl, b⟩
  replace OW0 := hid (OW0.out.below b)
  replace OW1 := hid (OW1.out.below b)
  replace X0 := hid (X0.out.below b)
  replace OG0 := hid (OG0.out.below b)
  replace OG1 := hid (OG1.out.below b)
  have Z : Hid (((((((((w.heap.size ≤ w.heap.size) ∧ w.heap.size ≤ w1.heap.size) ∧ w1.heap.size ≤ w2.heap.size) ∧ ((w1.heap.size ≤ l0OW ∧ l0OW ≤ e0OW ∧ e0OW ≤ w2.heap.size) ∧ (w1.heap.size ≤ l1OW ∧ l1OW ≤ e1OW ∧ e1OW ≤ w2.heap.size) ∧ (e0OW ≤ l1OW ∨ e1OW ≤ l0OW))) ∧ w2.heap.size ≤ w3.heap.size) ∧ w3.heap.size ≤ w4.heap.size) ∧ ((w3.heap.size ≤ l0OG ∧ l0OG ≤ e0OG ∧ e0OG ≤ w4.heap.size) ∧ (w3.heap.size ≤ l1OG ∧ l1OG ≤ e1OG ∧ e1OG ≤ w4.heap.size) ∧ (e0OG ≤ l1OG ∨ e1OG ≤ l0OG))) ∧ w4.heap.size ≤ w5.heap.size) ∧ w5.heap.size ≤ w6.heap.size) := ⟨Z.out, b.size⟩
  have B : Hid (Below w.heap.size w w6) := B.out.trans (b.mono B.out.size)
  clear b
  go_wp2_with fail
  refine (ktoIntS_any _ xs0 _ (HR0.out.below B.out) hxl0).mono ?_
  rintro e w7 ⟨v0_7, rfl, o, b⟩
  replace OW0 := hid (OW0.out.below b)
  replace OW1 := hid (OW1.out.below b)
  replace X0 := hid (X0.out.below b)
  replace OG0 := hid (OG0.out.below b)
  replace OG1 := hid (OG1.out.below b)
  have Z : Hid ((((((((((w.heap.size ≤ w.heap.size) ∧ w.heap.size ≤ w1.heap.size) ∧ w1.heap.size ≤ w2.heap.size) ∧ ((w1.heap.size ≤ l0OW ∧ l0OW ≤ e0OW ∧ e0OW ≤ w2.heap.size) ∧ (w1.heap.size ≤ l1OW ∧ l1OW ≤ e1OW ∧ e1OW ≤ w2.heap.size) ∧ (e0OW ≤ l1OW ∨ e1OW ≤ l0OW))) ∧ w2.heap.size ≤ w3.heap.size) ∧ w3.heap.size ≤ w4.heap.size) ∧ ((w3.heap.size ≤ l0OG ∧ l0OG ≤ e0OG ∧ e0OG ≤ w4.heap.size) ∧ (w3.heap.size ≤ l1OG ∧ l1OG ≤ e1OG ∧ e1OG ≤ w4.heap.size) ∧ (e0OG ≤ l1OG ∨ e1OG ≤ l0OG))) ∧ w4.heap.size ≤ w5.heap.size) ∧ w5.heap.size ≤ w6.heap.size) ∧ w6.heap.size ≤ w7.heap.size) := ⟨Z.out, b.size⟩
  have B : Hid (Below w.heap.size w w7) := B.out.trans (b.mono B.out.size)
  clear b
  have A0 := hid o
  clear o
  go_wp2_with fail
  refine (keqIntS_same _ _ xs0 _ X0.out.reads A0.out.reads).mono ?_
  rintro e w8 ⟨rfl, b⟩
  replace OW0 := hid (OW0.out.below b)
  replace OW1 := hid (OW1.out.below b)
  replace X0 := hid (X0.out.below b)
  replace OG0 := hid (OG0.out.below b)
  replace OG1 := hid (OG1.out.below b)
  replace A0 := hid (A0.out.below b)
  have Z : Hid (((((((((((w.heap.size ≤ w.heap.size) ∧ w.heap.size ≤ w1.heap.size) ∧ w1.heap.size ≤ w2.heap.size) ∧ ((w1.heap.size ≤ l0OW ∧ l0OW ≤ e0OW ∧ e0OW ≤ w2.heap.size) ∧ (w1.heap.size ≤ l1OW ∧ l1OW ≤ e1OW ∧ e1OW ≤ w2.heap.size) ∧ (e0OW ≤ l1OW ∨ e1OW ≤ l0OW))) ∧ w2.heap.size ≤ w3.heap.size) ∧ w3.heap.size ≤ w4.heap.size) ∧ ((w3.heap.size ≤ l0OG ∧ l0OG ≤ e0OG ∧ e0OG ≤ w4.heap.size) ∧ (w3.heap.size ≤ l1OG ∧ l1OG ≤ e1OG ∧ e1OG ≤ w4.heap.size) ∧ (e0OG ≤ l1OG ∨ e1OG ≤ l0OG))) ∧ w4.heap.size ≤ w5.heap.size) ∧ w5.heap.size ≤ w6.heap.size) ∧ w6.heap.size ≤ w7.heap.size) ∧ w7.heap.size ≤ w8.heap.size) := ⟨Z.out, b.size⟩
  have B : Hid (Below w.heap.size w w8) := B.out.trans (b.mono B.out.size)
  clear b
  clear A0
  obtain ⟨k0, hm, k0_0, k0_1⟩ : ∃ m : Int, m = 1 + (xs0.length : Nat) ∧ 0 ≤ m ∧ m ≤ 10000000 := ⟨_, rfl, by omega, by omega⟩
  have HM_k0 := hid hm
  clear hm
  go_wp2_with fail
  refine (kmarkIntS_any _ _ _ xs0 _ k0 _ X0.out hxl0 (by omega) (by omega) HM_k0.out).mono ?_
  rintro e w9 ⟨rfl, o, b, on⟩
  have OW0 := hid (OW0.out.only on (by have := Z.out; omega))
  have OW1 := hid (OW1.out.only on (by have := Z.out; omega))
  have OG0 := hid (OG0.out.only on (by have := Z.out; omega))
  have OG1 := hid (OG1.out.only on (by have := Z.out; omega))
  have X0 := hid o
  have Z : Hid ((((((((((((w.heap.size ≤ w.heap.size) ∧ w.heap.size ≤ w1.heap.size) ∧ w1.heap.size ≤ w2.heap.size) ∧ ((w1.heap.size ≤ l0OW ∧ l0OW ≤ e0OW ∧ e0OW ≤ w2.heap.size) ∧ (w1.heap.size ≤ l1OW ∧ l1OW ≤ e1OW ∧ e1OW ≤ w2.heap.size) ∧ (e0OW ≤ l1OW ∨ e1OW ≤ l0OW))) ∧ w2.heap.size ≤ w3.heap.size) ∧ w3.heap.size ≤ w4.heap.size) ∧ ((w3.heap.size ≤ l0OG ∧ l0OG ≤ e0OG ∧ e0OG ≤ w4.heap.size) ∧ (w3.heap.size ≤ l1OG ∧ l1OG ≤ e1OG ∧ e1OG ≤ w4.heap.size) ∧ (e0OG ≤ l1OG ∨ e1OG ≤ l0OG))) ∧ w4.heap.size ≤ w5.heap.size) ∧ w5.heap.size ≤ w6.heap.size) ∧ w6.heap.size ≤ w7.heap.size) ∧ w7.heap.size ≤ w8.heap.size) ∧ w8.heap.size ≤ w9.heap.size) := ⟨Z.out, b.size⟩
  have B : Hid (Below w.heap.size w w9) := B.out.trans (b.mono (by have := Z.out; omega))
  clear b o on
  go_wp2_with fail
  refine (keqIntS_same _ _ ys0 _ OG0.out.reads OW0.out.reads).mono ?_
  rintro e w10 ⟨rfl, b⟩
  replace OW0 := hid (OW0.out.below b)
  replace OW1 := hid (OW1.out.below b)
  replace X0 := hid (X0.out.below b)
  replace OG0 := hid (OG0.out.below b)
  replace OG1 := hid (OG1.out.below b)
  have Z : Hid (((((((((((((w.heap.size ≤ w.heap.size) ∧ w.heap.size ≤ w1.heap.size) ∧ w1.heap.size ≤ w2.heap.size) ∧ ((w1.heap.size ≤ l0OW ∧ l0OW ≤ e0OW ∧ e0OW ≤ w2.heap.size) ∧ (w1.heap.size ≤ l1OW ∧ l1OW ≤ e1OW ∧ e1OW ≤ w2.heap.size) ∧ (e0OW ≤ l1OW ∨ e1OW ≤ l0OW))) ∧ w2.heap.size ≤ w3.heap.size) ∧ w3.heap.size ≤ w4.heap.size) ∧ ((w3.heap.size ≤ l0OG ∧ l0OG ≤ e0OG ∧ e0OG ≤ w4.heap.size) ∧ (w3.heap.size ≤ l1OG ∧ l1OG ≤ e1OG ∧ e1OG ≤ w4.heap.size) ∧ (e0OG ≤ l1OG ∨ e1OG ≤ l0OG))) ∧ w4.heap.size ≤ w5.heap.size) ∧ w5.heap.size ≤ w6.heap.size) ∧ w6.heap.size ≤ w7.heap.size) ∧ w7.heap.size ≤ w8.heap.size) ∧ w8.heap.size ≤ w9.heap.size) ∧ w9.heap.size ≤ w10.heap.size) := ⟨Z.out, b.size⟩
  have B : Hid (Below w.heap.size w w10) := B.out.trans (b.mono B.out.size)
  clear b
  go_wp2_with fail
  refine (keqIntS_same _ _ ys1 _ OG1.out.reads OW1.out.reads).mono ?_
  rintro e w11 ⟨rfl, b⟩
  replace OW0 := hid (OW0.out.below b)
  replace OW1 := hid (OW1.out.below b)
  replace X0 := hid (X0.out.below b)
  replace OG0 := hid (OG0.out.below b)
  replace OG1 := hid (OG1.out.below b)
  have Z : Hid ((((((((((((((w.heap.size ≤ w.heap.size) ∧ w.heap.size ≤ w1.heap.size) ∧ w1.heap.size ≤ w2.heap.size) ∧ ((w1.heap.size ≤ l0OW ∧ l0OW ≤ e0OW ∧ e0OW ≤ w2.heap.size) ∧ (w1.heap.size ≤ l1OW ∧ l1OW ≤ e1OW ∧ e1OW ≤ w2.heap.size) ∧ (e0OW ≤ l1OW ∨ e1OW ≤ l0OW))) ∧ w2.heap.size ≤ w3.heap.size) ∧ w3.heap.size ≤ w4.heap.size) ∧ ((w3.heap.size ≤ l0OG ∧ l0OG ≤ e0OG ∧ e0OG ≤ w4.heap.size) ∧ (w3.heap.size ≤ l1OG ∧ l1OG ≤ e1OG ∧ e1OG ≤ w4.heap.size) ∧ (e0OG ≤ l1OG ∨ e1OG ≤ l0OG))) ∧ w4.heap.size ≤ w5.heap.size) ∧ w5.heap.size ≤ w6.heap.size) ∧ w6.heap.size ≤ w7.heap.size) ∧ w7.heap.size ≤ w8.heap.size) ∧ w8.heap.size ≤ w9.heap.size) ∧ w9.heap.size ≤ w10.heap.size) ∧ w10.heap.size ≤ w11.heap.size) := ⟨Z.out, b.size⟩
  have B : Hid (Below w.heap.size w w11) := B.out.trans (b.mono B.out.size)
  clear b
  clear X0
  obtain ⟨m0, hm, m0_0, m0_1⟩ : ∃ m : Int, m = 1 + (ys0.length : Nat) ∧ 0 ≤ m ∧ m ≤ 10000000 := ⟨_, rfl, by omega, by omega⟩
  have HM_m0 := hid hm
  clear hm
  go_wp2_with fail
  refine (kmarkIntS_any _ _ _ ys0 _ m0 _ OG0.out hy0 (by omega) (by omega) HM_m0.out).mono ?_
  rintro e w12 ⟨rfl, o, b, on⟩
  have OW0 := hid (OW0.out.only on (by have := Z.out; omega))
  have OW1 := hid (OW1.out.only on (by have := Z.out; omega))
  have OG1 := hid (OG1.out.only on (by have := Z.out; omega))
  have OG0 := hid o
  have Z : Hid (((((((((((((((w.heap.size ≤ w.heap.size) ∧ w.heap.size ≤ w1.heap.size) ∧ w1.heap.size ≤ w2.heap.size) ∧ ((w1.heap.size ≤ l0OW ∧ l0OW ≤ e0OW ∧ e0OW ≤ w2.heap.size) ∧ (w1.heap.size ≤ l1OW ∧ l1OW ≤ e1OW ∧ e1OW ≤ w2.heap.size) ∧ (e0OW ≤ l1OW ∨ e1OW ≤ l0OW))) ∧ w2.heap.size ≤ w3.heap.size) ∧ w3.heap.size ≤ w4.heap.size) ∧ ((w3.heap.size ≤ l0OG ∧ l0OG ≤ e0OG ∧ e0OG ≤ w4.heap.size) ∧ (w3.heap.size ≤ l1OG ∧ l1OG ≤ e1OG ∧ e1OG ≤ w4.heap.size) ∧ (e0OG ≤ l1OG ∨ e1OG ≤ l0OG))) ∧ w4.heap.size ≤ w5.heap.size) ∧ w5.heap.size ≤ w6.heap.size) ∧ w6.heap.size ≤ w7.heap.size) ∧ w7.heap.size ≤ w8.heap.size) ∧ w8.heap.size ≤ w9.heap.size) ∧ w9.heap.size ≤ w10.heap.size) ∧ w10.heap.size ≤ w11.heap.size) ∧ w11.heap.size ≤ w12.heap.size) := ⟨Z.out, b.size⟩
  have B : Hid (Below w.heap.size w w12) := B.out.trans (b.mono (by have := Z.out; omega))
  clear b o on
  obtain ⟨m1, hm, m1_0, m1_1⟩ : ∃ m : Int, m = m0 + (ys1.length : Nat) ∧ 0 ≤ m ∧ m ≤ 20000000 := ⟨_, rfl, by omega, by omega⟩
  have HM_m1 := hid hm
  clear hm
  go_wp2_with fail
  refine (kmarkIntS_any _ _ _ ys1 _ m1 _ OG1.out hy1 (by omega) (by omega) HM_m1.out).mono ?_
  rintro e w13 ⟨rfl, o, b, on⟩
  have OW0 := hid (OW0.out.only on (by have := Z.out; omega))
  have OW1 := hid (OW1.out.only on (by have := Z.out; omega))
  have OG0 := hid (OG0.out.only on (by have := Z.out; omega))
  have OG1 := hid o
  have Z : Hid ((((((((((((((((w.heap.size ≤ w.heap.size) ∧ w.heap.size ≤ w1.heap.size) ∧ w1.heap.size ≤ w2.heap.size) ∧ ((w1.heap.size ≤ l0OW ∧ l0OW ≤ e0OW ∧ e0OW ≤ w2.heap.size) ∧ (w1.heap.size ≤ l1OW ∧ l1OW ≤ e1OW ∧ e1OW ≤ w2.heap.size) ∧ (e0OW ≤ l1OW ∨ e1OW ≤ l0OW))) ∧ w2.heap.size ≤ w3.heap.size) ∧ w3.heap.size ≤ w4.heap.size) ∧ ((w3.heap.size ≤ l0OG ∧ l0OG ≤ e0OG ∧ e0OG ≤ w4.heap.size) ∧ (w3.heap.size ≤ l1OG ∧ l1OG ≤ e1OG ∧ e1OG ≤ w4.heap.size) ∧ (e0OG ≤ l1OG ∨ e1OG ≤ l0OG))) ∧ w4.heap.size ≤ w5.heap.size) ∧ w5.heap.size ≤ w6.heap.size) ∧ w6.heap.size ≤ w7.heap.size) ∧ w7.heap.size ≤ w8.heap.size) ∧ w8.heap.size ≤ w9.heap.size) ∧ w9.heap.size ≤ w10.heap.size) ∧ w10.heap.size ≤ w11.heap.size) ∧ w11.heap.size ≤ w12.heap.size) ∧ w12.heap.size ≤ w13.heap.size) := ⟨Z.out, b.size⟩
  have B : Hid (Below w.heap.size w w13) := B.out.trans (b.mono (by have := Z.out; omega))
  clear b o on
  go_wp2_with fail
  refine (kheldIntS_any _ ys0.length _ m0 _ OG0.out.reads hy0 (by omega) (by omega) HM_m0.out).mono ?_
  rintro e w' ⟨rfl, hw⟩; obtain rfl := hw.symm
  go_wp2_with fail
  refine (kheldIntS_any _ ys1.length _ m1 _ OG1.out.reads hy1 (by omega) (by omega) HM_m1.out).mono ?_
  rintro e w' ⟨rfl, hw⟩; obtain rfl := hw.symm
  go_wp2_with fail
  refine (ktoIntS_any _ xs0 _ (HR0.out.below B.out) hxl0).mono ?_
  rintro e w14 ⟨v0_14, rfl, o, b⟩
  replace OW0 := hid (OW0.out.below b)
  replace OW1 := hid (OW1.out.below b)
  replace OG0 := hid (OG0.out.below b)
  replace OG1 := hid (OG1.out.below b)
  have Z : Hid (((((((((((((((((w.heap.size ≤ w.heap.size) ∧ w.heap.size ≤ w1.heap.size) ∧ w1.heap.size ≤ w2.heap.size) ∧ ((w1.heap.size ≤ l0OW ∧ l0OW ≤ e0OW ∧ e0OW ≤ w2.heap.size) ∧ (w1.heap.size ≤ l1OW ∧ l1OW ≤ e1OW ∧ e1OW ≤ w2.heap.size) ∧ (e0OW ≤ l1OW ∨ e1OW ≤ l0OW))) ∧ w2.heap.size ≤ w3.heap.size) ∧ w3.heap.size ≤ w4.heap.size) ∧ ((w3.heap.size ≤ l0OG ∧ l0OG ≤ e0OG ∧ e0OG ≤ w4.heap.size) ∧ (w3.heap.size ≤ l1OG ∧ l1OG ≤ e1OG ∧ e1OG ≤ w4.heap.size) ∧ (e0OG ≤ l1OG ∨ e1OG ≤ l0OG))) ∧ w4.heap.size ≤ w5.heap.size) ∧ w5.heap.size ≤ w6.heap.size) ∧ w6.heap.size ≤ w7.heap.size) ∧ w7.heap.size ≤ w8.heap.size) ∧ w8.heap.size ≤ w9.heap.size) ∧ w9.heap.size ≤ w10.heap.size) ∧ w10.heap.size ≤ w11.heap.size) ∧ w11.heap.size ≤ w12.heap.size) ∧ w12.heap.size ≤ w13.heap.size) ∧ w13.heap.size ≤ w14.heap.size) := ⟨Z.out, b.size⟩
  have B : Hid (Below w.heap.size w w14) := B.out.trans (b.mono B.out.size)
  clear b
  have A0 := hid o
  clear o
  go_wp2_with fail
  refine (HI'.out v0_14 _ A0.out.reads).mono ?_
  rintro e w15 ⟨oh0_15, oh1_15, rfl, o0, o1, ap, b⟩
  replace OW0 := hid (OW0.out.below b)
  replace OW1 := hid (OW1.out.below b)
  replace OG0 := hid (OG0.out.below b)
  replace OG1 := hid (OG1.out.below b)
  replace A0 := hid (A0.out.below b)
  have Z : Hid ((((((((((((((((((w.heap.size ≤ w.heap.size) ∧ w.heap.size ≤ w1.heap.size) ∧ w1.heap.size ≤ w2.heap.size) ∧ ((w1.heap.size ≤ l0OW ∧ l0OW ≤ e0OW ∧ e0OW ≤ w2.heap.size) ∧ (w1.heap.size ≤ l1OW ∧ l1OW ≤ e1OW ∧ e1OW ≤ w2.heap.size) ∧ (e0OW ≤ l1OW ∨ e1OW ≤ l0OW))) ∧ w2.heap.size ≤ w3.heap.size) ∧ w3.heap.size ≤ w4.heap.size) ∧ ((w3.heap.size ≤ l0OG ∧ l0OG ≤ e0OG ∧ e0OG ≤ w4.heap.size) ∧ (w3.heap.size ≤ l1OG ∧ l1OG ≤ e1OG ∧ e1OG ≤ w4.heap.size) ∧ (e0OG ≤ l1OG ∨ e1OG ≤ l0OG))) ∧ w4.heap.size ≤ w5.heap.size) ∧ w5.heap.size ≤ w6.heap.size) ∧ w6.heap.size ≤ w7.heap.size) ∧ w7.heap.size ≤ w8.heap.size) ∧ w8.heap.size ≤ w9.heap.size) ∧ w9.heap.size ≤ w10.heap.size) ∧ w10.heap.size ≤ w11.heap.size) ∧ w11.heap.size ≤ w12.heap.size) ∧ w12.heap.size ≤ w13.heap.size) ∧ w13.heap.size ≤ w14.heap.size) ∧ w14.heap.size ≤ w15.heap.size) := ⟨Z.out, b.size⟩
  have B : Hid (Below w.heap.size w w15) := B.out.trans (b.mono B.out.size)
  clear b
  obtain ⟨l0OH, e0OH, l1OH, e1OH, hz, k0, k1⟩ := KOwn.apart o0 o1 ap (by have := Z.out; omega)
  have Z : Hid (((((((((((((((((((w.heap.size ≤ w.heap.size) ∧ w.heap.size ≤ w1.heap.size) ∧ w1.heap.size ≤ w2.heap.size) ∧ ((w1.heap.size ≤ l0OW ∧ l0OW ≤ e0OW ∧ e0OW ≤ w2.heap.size) ∧ (w1.heap.size ≤ l1OW ∧ l1OW ≤ e1OW ∧ e1OW ≤ w2.heap.size) ∧ (e0OW ≤ l1OW ∨ e1OW ≤ l0OW))) ∧ w2.heap.size ≤ w3.heap.size) ∧ w3.heap.size ≤ w4.heap.size) ∧ ((w3.heap.size ≤ l0OG ∧ l0OG ≤ e0OG ∧ e0OG ≤ w4.heap.size) ∧ (w3.heap.size ≤ l1OG ∧ l1OG ≤ e1OG ∧ e1OG ≤ w4.heap.size) ∧ (e0OG ≤ l1OG ∨ e1OG ≤ l0OG))) ∧ w4.heap.size ≤ w5.heap.size) ∧ w5.heap.size ≤ w6.heap.size) ∧ w6.heap.size ≤ w7.heap.size) ∧ w7.heap.size ≤ w8.heap.size) ∧ w8.heap.size ≤ w9.heap.size) ∧ w9.heap.size ≤ w10.heap.size) ∧ w10.heap.size ≤ w11.heap.size) ∧ w11.heap.size ≤ w12.heap.size) ∧ w12.heap.size ≤ w13.heap.size) ∧ w13.heap.size ≤ w14.heap.size) ∧ w14.heap.size ≤ w15.heap.size) ∧ ((w14.heap.size ≤ l0OH ∧ l0OH ≤ e0OH ∧ e0OH ≤ w15.heap.size) ∧ (w14.heap.size ≤ l1OH ∧ l1OH ≤ e1OH ∧ e1OH ≤ w15.heap.size) ∧ (e0OH ≤ l1OH ∨ e1OH ≤ l0OH))) := ⟨Z.out, hz⟩
  have OH0 := hid k0
  have OH1 := hid k1
  clear o0 o1 ap hz k0 k1
  clear A0
  go_wp2_with fail
  refine (keqIntS_same _ _ ys0 _ OH0.out.reads OW0.out.reads).mono ?_
  rintro e w16 ⟨rfl, b⟩
  replace OW0 := hid (OW0.out.below b)
  replace OW1 := hid (OW1.out.below b)
  replace OG0 := hid (OG0.out.below b)
  replace OG1 := hid (OG1.out.below b)
  replace OH0 := hid (OH0.out.below b)
  replace OH1 := hid (OH1.out.below b)
  have Z : Hid ((((((((((((((((((((w.heap.size ≤ w.heap.size) ∧ w.heap.size ≤ w1.heap.size) ∧ w1.heap.size ≤ w2.heap.size) ∧ ((w1.heap.size ≤ l0OW ∧ l0OW ≤ e0OW ∧ e0OW ≤ w2.heap.size) ∧ (w1.heap.size ≤ l1OW ∧ l1OW ≤ e1OW ∧ e1OW ≤ w2.heap.size) ∧ (e0OW ≤ l1OW ∨ e1OW ≤ l0OW))) ∧ w2.heap.size ≤ w3.heap.size) ∧ w3.heap.size ≤ w4.heap.size) ∧ ((w3.heap.size ≤ l0OG ∧ l0OG ≤ e0OG ∧ e0OG ≤ w4.heap.size) ∧ (w3.heap.size ≤ l1OG ∧ l1OG ≤ e1OG ∧ e1OG ≤ w4.heap.size) ∧ (e0OG ≤ l1OG ∨ e1OG ≤ l0OG))) ∧ w4.heap.size ≤ w5.heap.size) ∧ w5.heap.size ≤ w6.heap.size) ∧ w6.heap.size ≤ w7.heap.size) ∧ w7.heap.size ≤ w8.heap.size) ∧ w8.heap.size ≤ w9.heap.size) ∧ w9.heap.size ≤ w10.heap.size) ∧ w10.heap.size ≤ w11.heap.size) ∧ w11.heap.size ≤ w12.heap.size) ∧ w12.heap.size ≤ w13.heap.size) ∧ w13.heap.size ≤ w14.heap.size) ∧ w14.heap.size ≤ w15.heap.size) ∧ ((w14.heap.size ≤ l0OH ∧ l0OH ≤ e0OH ∧ e0OH ≤ w15.heap.size) ∧ (w14.heap.size ≤ l1OH ∧ l1OH ≤ e1OH ∧ e1OH ≤ w15.heap.size) ∧ (e0OH ≤ l1OH ∨ e1OH ≤ l0OH))) ∧ w15.heap.size ≤ w16.heap.size) := ⟨Z.out, b.size⟩
  have B : Hid (Below w.heap.size w w16) := B.out.trans (b.mono B.out.size)
  clear b
  go_wp2_with fail
  refine (keqIntS_same _ _ ys1 _ OH1.out.reads OW1.out.reads).mono ?_
  rintro e w17 ⟨rfl, b⟩
  replace OW0 := hid (OW0.out.below b)
  replace OW1 := hid (OW1.out.below b)
  replace OG0 := hid (OG0.out.below b)
  replace OG1 := hid (OG1.out.below b)
  replace OH0 := hid (OH0.out.below b)
  replace OH1 := hid (OH1.out.below b)
  have Z : Hid (((((((((((((((((((((w.heap.size ≤ w.heap.size) ∧ w.heap.size ≤ w1.heap.size) ∧ w1.heap.size ≤ w2.heap.size) ∧ ((w1.heap.size ≤ l0OW ∧ l0OW ≤ e0OW ∧ e0OW ≤ w2.heap.size) ∧ (w1.heap.size ≤ l1OW ∧ l1OW ≤ e1OW ∧ e1OW ≤ w2.heap.size) ∧ (e0OW ≤ l1OW ∨ e1OW ≤ l0OW))) ∧ w2.heap.size ≤ w3.heap.size) ∧ w3.heap.size ≤ w4.heap.size) ∧ ((w3.heap.size ≤ l0OG ∧ l0OG ≤ e0OG ∧ e0OG ≤ w4.heap.size) ∧ (w3.heap.size ≤ l1OG ∧ l1OG ≤ e1OG ∧ e1OG ≤ w4.heap.size) ∧ (e0OG ≤ l1OG ∨ e1OG ≤ l0OG))) ∧ w4.heap.size ≤ w5.heap.size) ∧ w5.heap.size ≤ w6.heap.size) ∧ w6.heap.size ≤ w7.heap.size) ∧ w7.heap.size ≤ w8.heap.size) ∧ w8.heap.size ≤ w9.heap.size) ∧ w9.heap.size ≤ w10.heap.size) ∧ w10.heap.size ≤ w11.heap.size) ∧ w11.heap.size ≤ w12.heap.size) ∧ w12.heap.size ≤ w13.heap.size) ∧ w13.heap.size ≤ w14.heap.size) ∧ w14.heap.size ≤ w15.heap.size) ∧ ((w14.heap.size ≤ l0OH ∧ l0OH ≤ e0OH ∧ e0OH ≤ w15.heap.size) ∧ (w14.heap.size ≤ l1OH ∧ l1OH ≤ e1OH ∧ e1OH ≤ w15.heap.size) ∧ (e0OH ≤ l1OH ∨ e1OH ≤ l0OH))) ∧ w15.heap.size ≤ w16.heap.size) ∧ w16.heap.size ≤ w17.heap.size) := ⟨Z.out, b.size⟩
  have B : Hid (Below w.heap.size w w17) := B.out.trans (b.mono B.out.size)
  clear b
  go_wp2_with fail
  refine (kheldIntS_any _ ys0.length _ m0 _ OG0.out.reads hy0 (by omega) (by omega) HM_m0.out).mono ?_
  rintro e w' ⟨rfl, hw⟩; obtain rfl := hw.symm
  go_wp2_with fail
  refine (kheldIntS_any _ ys1.length _ m1 _ OG1.out.reads hy1 (by omega) (by omega) HM_m1.out).mono ?_
  rintro e w' ⟨rfl, hw⟩; obtain rfl := hw.symm
  go_wp2
  go_ret
  exact ⟨rfl, B.out⟩
end Go.Proofs.Ytcieefggijjekaz
