/-
  The law FnExactPartsOf answers true at every argument, where both sides tell alike.
-/
import Derived.Test.YtnkpboobfkjibakKPartEqS
import Derived.Test.YtnkpboobfkjibakKPartHeldS
import Derived.Test.YtnkpboobfkjibakKPartMarkS
import Derived.Test.YtnkpboobfkjibakKOwnS
import Derived.Deep.RegionWith
namespace Go.Proofs.Ytnkpboobfkjibak
open Go.RowKit

set_option maxRecDepth 100000 in
set_option maxHeartbeats 16000000 in
theorem FnExactPartsOf_law (n0 : Int) (s1 : ByteArray) (w : World) (R0 : List PtD) (hy0 : R0.length ≤ 1048576) (r1 : Bool)
    (HS : ∀ (w : World), Calls Try.prog 14 #[.int .i64 n0, .string s1] w fun e w' => ∃ u0, e = .returned (.tuple #[u0, .bool r1]) ∧ RowO rpPt (Iv w.heap.size w'.heap.size) w' u0 R0 ∧ Below w.heap.size w w')
    (HI : ∀ (w : World), Calls Try.prog 15 #[.int .i64 n0, .string s1] w fun e w' => ∃ u0, e = .returned (.tuple #[u0, .bool r1]) ∧ RowO rpPt (Iv w.heap.size w'.heap.size) w' u0 R0 ∧ Below w.heap.size w w') :
    Calls Try.prog 4 #[.int .i64 n0, .string s1] w fun e w' => e = .returned (.bool true) ∧ Below w.heap.size w w' := by
  have HS' := hid HS
  have HI' := hid HI
  clear HS HI
  by_cases hl_s1 : (s1.size : Int) > 1048576
  · have hd : decide ((s1.size : Int) > 1048576) = true := by rw [decide_eq_true_eq]; exact hl_s1
    clear HS' HI'
    go_enter Try.func4, Try.ntmps4
    go_wp2
    go_ret
    exact ⟨rfl, Below.refl _ _⟩
  have hd_s1 : decide ((s1.size : Int) > 1048576) = false := by rw [decide_eq_false_iff_not]; exact hl_s1
  have B : Hid (Below w.heap.size w w) := Below.refl _ _
  have Z : Hid (w.heap.size ≤ w.heap.size) := Nat.le_refl _
  go_enter Try.func4, Try.ntmps4
  go_wp2_with fail
  refine (HS'.out _).mono ?_
  rintro e w1 ⟨owu0, rfl, o0, b⟩
  replace B : Hid (Below w.heap.size w w1) := B.out.trans (b.mono B.out.size)
  replace Z : Hid ((w.heap.size ≤ w.heap.size) ∧ (w).heap.size ≤ w1.heap.size) := ⟨Z.out, b.size⟩
  clear b
  have OW0 := hid o0
  have OW0I : Hid (∀ g, (Iv w.heap.size w1.heap.size) g → w.heap.size ≤ g ∧ g < w1.heap.size) := fun g h => h
  clear o0
  go_wp2_with fail
  refine (HI'.out _).mono ?_
  rintro e w2 ⟨ogu0, rfl, o0, b⟩
  replace OW0 := hid (OW0.out.below b)
  replace B : Hid (Below w.heap.size w w2) := B.out.trans (b.mono B.out.size)
  replace Z : Hid (((w.heap.size ≤ w.heap.size) ∧ (w).heap.size ≤ w1.heap.size) ∧ (w1).heap.size ≤ w2.heap.size) := ⟨Z.out, b.size⟩
  clear b
  have OG0 := hid o0
  have OG0I : Hid (∀ g, (Iv w1.heap.size w2.heap.size) g → w1.heap.size ≤ g ∧ g < w2.heap.size) := fun g h => h
  clear o0
  go_wp2_with fail
  refine (eqPartS_same _ _ R0 _ OG0.out.reads OW0.out.reads).mono ?_
  rintro e w3 ⟨rfl, b⟩
  replace OW0 := hid (OW0.out.below b)
  replace OG0 := hid (OG0.out.below b)
  replace B : Hid (Below w.heap.size w w3) := B.out.trans (b.mono B.out.size)
  replace Z : Hid ((((w.heap.size ≤ w.heap.size) ∧ (w).heap.size ≤ w1.heap.size) ∧ (w1).heap.size ≤ w2.heap.size) ∧ (w2).heap.size ≤ w3.heap.size) := ⟨Z.out, b.size⟩
  clear b
  go_wp2_with fail
  obtain ⟨m0, hm, m0_0, m0_1⟩ : ∃ m : Int, m = 1 + (4 * R0.length : Nat) ∧ 0 ≤ m ∧ m ≤ 4500000 := ⟨_, rfl, by omega, by omega⟩
  have HM_m0 := hid hm
  clear hm
  have HIN : Hid (∀ g, (Iv w1.heap.size w2.heap.size) g → w1.heap.size ≤ g ∧ g < w3.heap.size) := fun g h => by have h1 : w1.heap.size ≤ g ∧ g < w2.heap.size := OG0I.out g h; have := Z.out; omega
  refine (markPartS_any (Iv w1.heap.size w2.heap.size) w1.heap.size _ R0 1 m0 _ OG0.out HIN.out (by have := Z.out; omega) hy0 (by omega) (by omega) HM_m0.out).mono ?_
  rintro e w4 ⟨rfl, o, b, on⟩
  clear HIN
  replace OW0 := hid (OW0.out.onlyS on (fun g g1 g2 => by have h1 : w.heap.size ≤ g ∧ g < w1.heap.size := (OW0I.out g g1); have h2 : w1.heap.size ≤ g ∧ g < w2.heap.size := (OG0I.out g g2); have := Z.out; omega))
  replace OG0 := hid o
  replace B : Hid (Below w.heap.size w w4) := B.out.trans (b.mono (by have := Z.out; omega))
  replace Z : Hid (((((w.heap.size ≤ w.heap.size) ∧ (w).heap.size ≤ w1.heap.size) ∧ (w1).heap.size ≤ w2.heap.size) ∧ (w2).heap.size ≤ w3.heap.size) ∧ w3.heap.size ≤ w4.heap.size) := ⟨Z.out, b.size⟩
  clear o b on
  have hdm0 : decide (m0 < 0) = false := by rw [decide_eq_false_iff_not]; omega
  go_wp2_with fail
  refine (heldPartS_any _ R0 1 m0 _ OG0.out.reads hy0 (by omega) (by omega) HM_m0.out).mono ?_
  rintro e w5 ⟨rfl, b⟩
  replace OW0 := hid (OW0.out.below b)
  replace OG0 := hid (OG0.out.below b)
  replace B : Hid (Below w.heap.size w w5) := B.out.trans (b.mono B.out.size)
  replace Z : Hid ((((((w.heap.size ≤ w.heap.size) ∧ (w).heap.size ≤ w1.heap.size) ∧ (w1).heap.size ≤ w2.heap.size) ∧ (w2).heap.size ≤ w3.heap.size) ∧ w3.heap.size ≤ w4.heap.size) ∧ (w4).heap.size ≤ w5.heap.size) := ⟨Z.out, b.size⟩
  clear b
  go_wp2_with fail
  refine (HI'.out _).mono ?_
  rintro e w6 ⟨ohu0, rfl, o0, b⟩
  replace OW0 := hid (OW0.out.below b)
  replace OG0 := hid (OG0.out.below b)
  replace B : Hid (Below w.heap.size w w6) := B.out.trans (b.mono B.out.size)
  replace Z : Hid (((((((w.heap.size ≤ w.heap.size) ∧ (w).heap.size ≤ w1.heap.size) ∧ (w1).heap.size ≤ w2.heap.size) ∧ (w2).heap.size ≤ w3.heap.size) ∧ w3.heap.size ≤ w4.heap.size) ∧ (w4).heap.size ≤ w5.heap.size) ∧ (w5).heap.size ≤ w6.heap.size) := ⟨Z.out, b.size⟩
  clear b
  have OH0 := hid o0
  have OH0I : Hid (∀ g, (Iv w5.heap.size w6.heap.size) g → w5.heap.size ≤ g ∧ g < w6.heap.size) := fun g h => h
  clear o0
  go_wp2_with fail
  refine (eqPartS_same _ _ R0 _ OH0.out.reads OW0.out.reads).mono ?_
  rintro e w7 ⟨rfl, b⟩
  replace OW0 := hid (OW0.out.below b)
  replace OG0 := hid (OG0.out.below b)
  replace OH0 := hid (OH0.out.below b)
  replace B : Hid (Below w.heap.size w w7) := B.out.trans (b.mono B.out.size)
  replace Z : Hid ((((((((w.heap.size ≤ w.heap.size) ∧ (w).heap.size ≤ w1.heap.size) ∧ (w1).heap.size ≤ w2.heap.size) ∧ (w2).heap.size ≤ w3.heap.size) ∧ w3.heap.size ≤ w4.heap.size) ∧ (w4).heap.size ≤ w5.heap.size) ∧ (w5).heap.size ≤ w6.heap.size) ∧ (w6).heap.size ≤ w7.heap.size) := ⟨Z.out, b.size⟩
  clear b
  go_wp2_with fail
  refine (heldPartS_any _ R0 1 m0 _ OG0.out.reads hy0 (by omega) (by omega) HM_m0.out).mono ?_
  rintro e w8 ⟨rfl, b⟩
  replace OW0 := hid (OW0.out.below b)
  replace OG0 := hid (OG0.out.below b)
  replace OH0 := hid (OH0.out.below b)
  replace B : Hid (Below w.heap.size w w8) := B.out.trans (b.mono B.out.size)
  replace Z : Hid (((((((((w.heap.size ≤ w.heap.size) ∧ (w).heap.size ≤ w1.heap.size) ∧ (w1).heap.size ≤ w2.heap.size) ∧ (w2).heap.size ≤ w3.heap.size) ∧ w3.heap.size ≤ w4.heap.size) ∧ (w4).heap.size ≤ w5.heap.size) ∧ (w5).heap.size ≤ w6.heap.size) ∧ (w6).heap.size ≤ w7.heap.size) ∧ (w7).heap.size ≤ w8.heap.size) := ⟨Z.out, b.size⟩
  clear b
  go_wp2
  go_ret
  exact ⟨rfl, B.out⟩
end Go.Proofs.Ytnkpboobfkjibak
