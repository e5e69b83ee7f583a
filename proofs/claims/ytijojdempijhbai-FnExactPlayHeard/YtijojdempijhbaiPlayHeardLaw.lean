/-
  The law FnExactPlayHeard answers true at every argument, where both sides tell alike.
  The law FnExactPlayHeard answers true at any number and order.
-/
import Derived.Test.YtijojdempijhbaiKIntArg
import Derived.Test.YtijojdempijhbaiKIntRows
import Derived.Test.YtijojdempijhbaiKIntMark
import Derived.Test.YtijojdempijhbaiIntsTo
import Derived.Deep.RegionHeld3
import Derived.Test.YtijojdempijhbaiSPlay
import Derived.Test.YtijojdempijhbaiIPlay
namespace Go.Proofs.Ytijojdempijhbai
open Go.RowKit

set_option maxHeartbeats 8000000 in
theorem FnExactPlayHeard_law (n0 : Int) (a1 : Option Addr) (len1 cap1 : Nat) (xs1 : List Int) (w : World) (hrow1 : KArg w a1 len1 cap1 xs1) (ys0 : List Int) (hy0 : ys0.length ≤ 1048576) (r1 : Bool)
    (HS : ∀ (v1 : Value) (w : World), KReads w v1 xs1 → Calls Try.prog 19 #[.int .i64 n0, v1] w fun e w' => ∃ u0, e = .returned (.tuple #[u0, .bool r1]) ∧ KOwn w.heap.size w'.heap.size w' u0 ys0 ∧ Below w.heap.size w w')
    (HI : ∀ (v1 : Value) (w : World), KReads w v1 xs1 → Calls Try.prog 20 #[.int .i64 n0, v1] w fun e w' => ∃ u0, e = .returned (.tuple #[u0, .bool r1]) ∧ KOwn w.heap.size w'.heap.size w' u0 ys0 ∧ Below w.heap.size w w') :
    Calls Try.prog 5 #[.int .i64 n0, .slice a1 len1 cap1] w fun e w' => e = .returned (.bool true) ∧ Below w.heap.size w w' := by
  have HS' := hid HS
  have HI' := hid HI
  clear HS HI
  by_cases hl1 : (len1 : Int) ≤ 1048576
  rotate_left
  · have hm : len1 ≤ maxLen := Nat.le_trans hrow1.2.1 hrow1.2.2.1
    unfold maxLen at hm
    have hd : decide ((len1 : Int) > 1048576) = true := by simp; omega
    clear HS' HI' hrow1
    go_enter Try.func5, Try.ntmps5
    go_wp2
    go_ret
    exact ⟨rfl, Below.refl _ _⟩
  have hdI1 : decide ((len1 : Int) > 1048576) = false := by simp; omega
  have HR1 := hid (hrow1.reads (by omega))
  have hxl1 : xs1.length ≤ 1048576 := by rw [hrow1.1]; omega
  clear hrow1
  go_enter Try.func5, Try.ntmps5
  have Z : Hid (w.heap.size ≤ w.heap.size) := Nat.le_refl _
  have B : Hid (Below w.heap.size w w) := Below.refl _ _
  go_wp2_with fail
  refine (ktoIntS_any _ xs1 _ (HR1.out.below B.out) hxl1).mono ?_
  rintro e w1 ⟨v1_1, rfl, o, b⟩
  have Z : Hid ((w.heap.size ≤ w.heap.size) ∧ w.heap.size ≤ w1.heap.size) := ⟨Z.out, b.size⟩
  have B : Hid (Below w.heap.size w w1) := B.out.trans (b.mono B.out.size)
  clear b
  have A1 := hid o
  clear o
  go_wp2_with fail
  refine (HS'.out v1_1 _ A1.out.reads).mono ?_
  rintro e w2 ⟨ow_2, rfl, o, b⟩
  replace A1 := hid (A1.out.below b)
  have Z : Hid (((w.heap.size ≤ w.heap.size) ∧ w.heap.size ≤ w1.heap.size) ∧ w1.heap.size ≤ w2.heap.size) := ⟨Z.out, b.size⟩
  have B : Hid (Below w.heap.size w w2) := B.out.trans (b.mono B.out.size)
  clear b
  have OW := hid o
  clear o
  clear A1
  go_wp2_with fail
  refine (ktoIntS_any _ xs1 _ (HR1.out.below B.out) hxl1).mono ?_
  rintro e w3 ⟨v1_3, rfl, o, b⟩
  replace OW := hid (OW.out.below b)
  have Z : Hid ((((w.heap.size ≤ w.heap.size) ∧ w.heap.size ≤ w1.heap.size) ∧ w1.heap.size ≤ w2.heap.size) ∧ w2.heap.size ≤ w3.heap.size) := ⟨Z.out, b.size⟩
  have B : Hid (Below w.heap.size w w3) := B.out.trans (b.mono B.out.size)
  clear b
  have X1 := hid o
  clear o
  go_wp2_with fail
  refine (HI'.out v1_3 _ X1.out.reads).mono ?_
  rintro e w4 ⟨og_4, rfl, o, b⟩
  replace OW := hid (OW.out.below b)
  replace X1 := hid (X1.out.below b)
  have Z : Hid (((((w.heap.size ≤ w.heap.size) ∧ w.heap.size ≤ w1.heap.size) ∧ w1.heap.size ≤ w2.heap.size) ∧ w2.heap.size ≤ w3.heap.size) ∧ w3.heap.size ≤ w4.heap.size) := ⟨Z.out, b.size⟩
  have B : Hid (Below w.heap.size w w4) := B.out.trans (b.mono B.out.size)
  clear b
  have OG := hid o
  clear o
  go_wp2_with fail
  refine (keqIntS_same _ _ ys0 _ OG.out.reads OW.out.reads).mono ?_
  rintro e w5 ⟨rfl, b⟩
  replace OW := hid (OW.out.below b)
  replace X1 := hid (X1.out.below b)
  replace OG := hid (OG.out.below b)
  have Z : Hid ((((((w.heap.size ≤ w.heap.size) ∧ w.heap.size ≤ w1.heap.size) ∧ w1.heap.size ≤ w2.heap.size) ∧ w2.heap.size ≤ w3.heap.size) ∧ w3.heap.size ≤ w4.heap.size) ∧ w4.heap.size ≤ w5.heap.size) := ⟨Z.out, b.size⟩
  have B : Hid (Below w.heap.size w w5) := B.out.trans (b.mono B.out.size)
  clear b
  go_wp2_with fail
  refine (ktoIntS_any _ xs1 _ (HR1.out.below B.out) hxl1).mono ?_
  rintro e w6 ⟨v1_6, rfl, o, b⟩
  replace OW := hid (OW.out.below b)
  replace X1 := hid (X1.out.below b)
  replace OG := hid (OG.out.below b)
  have Z : Hid (((((((w.heap.size ≤ w.heap.size) ∧ w.heap.size ≤ w1.heap.size) ∧ w1.heap.size ≤ w2.heap.size) ∧ w2.heap.size ≤ w3.heap.size) ∧ w3.heap.size ≤ w4.heap.size) ∧ w4.heap.size ≤ w5.heap.size) ∧ w5.heap.size ≤ w6.heap.size) := ⟨Z.out, b.size⟩
  have B : Hid (Below w.heap.size w w6) := B.out.trans (b.mono B.out.size)
  clear b
  have A1 := hid o
  clear o
  go_wp2_with fail
  refine (keqIntS_same _ _ xs1 _ X1.out.reads A1.out.reads).mono ?_
  rintro e w7 ⟨rfl, b⟩
  replace OW := hid (OW.out.below b)
  replace X1 := hid (X1.out.below b)
  replace OG := hid (OG.out.below b)
  replace A1 := hid (A1.out.below b)
  have Z : Hid ((((((((w.heap.size ≤ w.heap.size) ∧ w.heap.size ≤ w1.heap.size) ∧ w1.heap.size ≤ w2.heap.size) ∧ w2.heap.size ≤ w3.heap.size) ∧ w3.heap.size ≤ w4.heap.size) ∧ w4.heap.size ≤ w5.heap.size) ∧ w5.heap.size ≤ w6.heap.size) ∧ w6.heap.size ≤ w7.heap.size) := ⟨Z.out, b.size⟩
  have B : Hid (Below w.heap.size w w7) := B.out.trans (b.mono B.out.size)
  clear b
  clear A1
  obtain ⟨k1, hm, k1_0, k1_1⟩ : ∃ m : Int, m = 1 + (xs1.length : Nat) ∧ 0 ≤ m ∧ m ≤ 10000000 := ⟨_, rfl, by omega, by omega⟩
  have HM_k1 := hid hm
  clear hm
  go_wp2_with fail
  refine (kmarkIntS_any _ _ _ xs1 _ k1 _ X1.out hxl1 (by omega) (by omega) HM_k1.out).mono ?_
  rintro e w8 ⟨rfl, o, b, on⟩
  have OW := hid (OW.out.only on (by have := Z.out; omega))
  have OG := hid (OG.out.only on (by have := Z.out; omega))
  have X1 := hid o
  have Z : Hid (((((((((w.heap.size ≤ w.heap.size) ∧ w.heap.size ≤ w1.heap.size) ∧ w1.heap.size ≤ w2.heap.size) ∧ w2.heap.size ≤ w3.heap.size) ∧ w3.heap.size ≤ w4.heap.size) ∧ w4.heap.size ≤ w5.heap.size) ∧ w5.heap.size ≤ w6.heap.size) ∧ w6.heap.size ≤ w7.heap.size) ∧ w7.heap.size ≤ w8.heap.size) := ⟨Z.out, b.size⟩
  have B : Hid (Below w.heap.size w w8) := B.out.trans (b.mono (by have := Z.out; omega))
  clear b o on
  go_wp2_with fail
  refine (keqIntS_same _ _ ys0 _ OG.out.reads OW.out.reads).mono ?_
  rintro e w9 ⟨rfl, b⟩
  replace OW := hid (OW.out.below b)
  replace X1 := hid (X1.out.below b)
  replace OG := hid (OG.out.below b)
  have Z : Hid ((((((((((w.heap.size ≤ w.heap.size) ∧ w.heap.size ≤ w1.heap.size) ∧ w1.heap.size ≤ w2.heap.size) ∧ w2.heap.size ≤ w3.heap.size) ∧ w3.heap.size ≤ w4.heap.size) ∧ w4.heap.size ≤ w5.heap.size) ∧ w5.heap.size ≤ w6.heap.size) ∧ w6.heap.size ≤ w7.heap.size) ∧ w7.heap.size ≤ w8.heap.size) ∧ w8.heap.size ≤ w9.heap.size) := ⟨Z.out, b.size⟩
  have B : Hid (Below w.heap.size w w9) := B.out.trans (b.mono B.out.size)
  clear b
  clear X1
  obtain ⟨m0, hm, m0_0, m0_1⟩ : ∃ m : Int, m = 1 + (ys0.length : Nat) ∧ 0 ≤ m ∧ m ≤ 10000000 := ⟨_, rfl, by omega, by omega⟩
  have HM_m0 := hid hm
  clear hm
  go_wp2_with fail
  refine (kmarkIntS_any _ _ _ ys0 _ m0 _ OG.out hy0 (by omega) (by omega) HM_m0.out).mono ?_
  rintro e w10 ⟨rfl, o, b, on⟩
  have OW := hid (OW.out.only on (by have := Z.out; omega))
  have OG := hid o
  have Z : Hid (((((((((((w.heap.size ≤ w.heap.size) ∧ w.heap.size ≤ w1.heap.size) ∧ w1.heap.size ≤ w2.heap.size) ∧ w2.heap.size ≤ w3.heap.size) ∧ w3.heap.size ≤ w4.heap.size) ∧ w4.heap.size ≤ w5.heap.size) ∧ w5.heap.size ≤ w6.heap.size) ∧ w6.heap.size ≤ w7.heap.size) ∧ w7.heap.size ≤ w8.heap.size) ∧ w8.heap.size ≤ w9.heap.size) ∧ w9.heap.size ≤ w10.heap.size) := ⟨Z.out, b.size⟩
  have B : Hid (Below w.heap.size w w10) := B.out.trans (b.mono (by have := Z.out; omega))
  clear b o on
  go_wp2_with fail
  refine (kheldIntS_any _ ys0.length _ m0 _ OG.out.reads hy0 (by omega) (by omega) HM_m0.out).mono ?_
  rintro e w' ⟨rfl, hw⟩; obtain rfl := hw.symm
  go_wp2_with fail
  refine (ktoIntS_any _ xs1 _ (HR1.out.below B.out) hxl1).mono ?_
  rintro e w11 ⟨v1_11, rfl, o, b⟩
  replace OW := hid (OW.out.below b)
  replace OG := hid (OG.out.below b)
  have Z : Hid ((((((((((((w.heap.size ≤ w.heap.size) ∧ w.heap.size ≤ w1.heap.size) ∧ w1.heap.size ≤ w2.heap.size) ∧ w2.heap.size ≤ w3.heap.size) ∧ w3.heap.size ≤ w4.heap.size) ∧ w4.heap.size ≤ w5.heap.size) ∧ w5.heap.size ≤ w6.heap.size) ∧ w6.heap.size ≤ w7.heap.size) ∧ w7.heap.size ≤ w8.heap.size) ∧ w8.heap.size ≤ w9.heap.size) ∧ w9.heap.size ≤ w10.heap.size) ∧ w10.heap.size ≤ w11.heap.size) := ⟨Z.out, b.size⟩
  have B : Hid (Below w.heap.size w w11) := B.out.trans (b.mono B.out.size)
  clear b
  have A1 := hid o
  clear o
  go_wp2_with fail
  refine (HI'.out v1_11 _ A1.out.reads).mono ?_
  rintro e w12 ⟨oh_12, rfl, o, b⟩
  replace OW := hid (OW.out.below b)
  replace OG := hid (OG.out.below b)
  replace A1 := hid (A1.out.below b)
  have Z : Hid (((((((((((((w.heap.size ≤ w.heap.size) ∧ w.heap.size ≤ w1.heap.size) ∧ w1.heap.size ≤ w2.heap.size) ∧ w2.heap.size ≤ w3.heap.size) ∧ w3.heap.size ≤ w4.heap.size) ∧ w4.heap.size ≤ w5.heap.size) ∧ w5.heap.size ≤ w6.heap.size) ∧ w6.heap.size ≤ w7.heap.size) ∧ w7.heap.size ≤ w8.heap.size) ∧ w8.heap.size ≤ w9.heap.size) ∧ w9.heap.size ≤ w10.heap.size) ∧ w10.heap.size ≤ w11.heap.size) ∧ w11.heap.size ≤ w12.heap.size) := ⟨Z.out, b.size⟩
  have B : Hid (Below w.heap.size w w12) := B.out.trans (b.mono B.out.size)
  clear b
  have OH := hid o
  clear o
  clear A1
  go_wp2_with fail
  refine (keqIntS_same _ _ ys0 _ OH.out.reads OW.out.reads).mono ?_
  rintro e w13 ⟨rfl, b⟩
  replace OW := hid (OW.out.below b)
  replace OG := hid (OG.out.below b)
  replace OH := hid (OH.out.below b)
  have Z : Hid ((((((((((((((w.heap.size ≤ w.heap.size) ∧ w.heap.size ≤ w1.heap.size) ∧ w1.heap.size ≤ w2.heap.size) ∧ w2.heap.size ≤ w3.heap.size) ∧ w3.heap.size ≤ w4.heap.size) ∧ w4.heap.size ≤ w5.heap.size) ∧ w5.heap.size ≤ w6.heap.size) ∧ w6.heap.size ≤ w7.heap.size) ∧ w7.heap.size ≤ w8.heap.size) ∧ w8.heap.size ≤ w9.heap.size) ∧ w9.heap.size ≤ w10.heap.size) ∧ w10.heap.size ≤ w11.heap.size) ∧ w11.heap.size ≤ w12.heap.size) ∧ w12.heap.size ≤ w13.heap.size) := ⟨Z.out, b.size⟩
  have B : Hid (Below w.heap.size w w13) := B.out.trans (b.mono B.out.size)
  clear b
  go_wp2_with fail
  refine (kheldIntS_any _ ys0.length _ m0 _ OG.out.reads hy0 (by omega) (by omega) HM_m0.out).mono ?_
  rintro e w' ⟨rfl, hw⟩; obtain rfl := hw.symm
  go_wp2
  go_ret
  exact ⟨rfl, B.out⟩
end Go.Proofs.Ytijojdempijhbai
namespace Go.Proofs.Ytijojdempijhbai
open Go.RowKit

theorem playL_len (many : Int) (l : List Int) : (playL many l).length ≤ 1048576 := by
  unfold playL
  cases h : playT many l
  · exact Nat.zero_le _
  · have h1 := selU_len (fun x => (playE (newSd many) l).contains x) many.toNat
    have h2 : many ≤ 60 := by
      unfold playT at h
      rw [Bool.and_eq_true] at h
      have := h.1
      unfold newSdB at this
      rw [decide_eq_true_eq] at this
      exact this.2
    show (selU (fun x => (playE (newSd many) l).contains x) many.toNat).length ≤ 1048576
    omega
theorem FnExactPlayHeard_walk (n0 : Int) (a1 : Option Addr) (len1 cap1 : Nat) (xs1 : List Int) (w : World) (hin : ∀ x ∈ xs1, inW x) (hrow1 : KArg w a1 len1 cap1 xs1) :
    Calls Try.prog 5 #[.int .i64 n0, .slice a1 len1 cap1] w fun e w' => e = .returned (.bool true) ∧ Below w.heap.size w w' :=
  FnExactPlayHeard_law n0 a1 len1 cap1 xs1 w hrow1 (playL n0 xs1) (playL_len n0 xs1) (playT n0 xs1) (fun v w r => splay_any n0 v xs1 w r _ _ rfl rfl) (fun v w r => iplay_any n0 v xs1 w r hin _ _ rfl rfl)
end Go.Proofs.Ytijojdempijhbai
