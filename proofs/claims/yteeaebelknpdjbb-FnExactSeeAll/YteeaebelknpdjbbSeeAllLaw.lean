/-
  The law FnExactSeeAll answers true at every argument, where both sides tell alike.
-/
import Derived.Test.YteeaebelknpdjbbKGuessToEq
import Derived.Test.YteeaebelknpdjbbGuForm
import Derived.Test.YteeaebelknpdjbbKSeenArg
import Derived.Test.YteeaebelknpdjbbKSeenEq
import Derived.Test.YteeaebelknpdjbbKSeenSz
import Derived.Test.YteeaebelknpdjbbKSeenToS
import Derived.Deep.RegionHeld3
namespace Go.Proofs.Yteeaebelknpdjbb
open Go.RowKit

theorem FnExactSeeAll_boxGuess (w : World) (x : GuEl) : GuCells (w.alloc (.cells #[.int .i64 x.1, .int .i64 x.2.1, .int .i64 x.2.2.1, .int .i64 x.2.2.2] 23)) w.heap.size x := by
  refine ⟨?_, ?_, ?_, ?_⟩ <;> simp
set_option maxHeartbeats 8000000 in
theorem FnExactSeeAll_law (n0 : Int) (a1 : Option Addr) (len1 cap1 : Nat) (xs1 : List SeEl) (w : World) (hrow1 : SeArg w a1 len1 cap1 xs1) (r0 : GuEl) (r1 : Bool)
    (HS : ∀ (v1 : Value) (w : World), SeReads w v1 xs1 → Calls Try.prog 21 #[.int .i64 n0, v1] w fun e w' => e = .returned (.tuple #[(.agg #[.int .i64 r0.1, .int .i64 r0.2.1, .int .i64 r0.2.2.1, .int .i64 r0.2.2.2]), .bool r1]) ∧ Below w.heap.size w w')
    (HI : ∀ (v1 : Value) (w : World), SeReads w v1 xs1 → Calls Try.prog 23 #[.int .i64 n0, v1] w fun e w' => e = .returned (.tuple #[(.agg #[.int .i64 r0.1, .int .i64 r0.2.1, .int .i64 r0.2.2.1, .int .i64 r0.2.2.2]), .bool r1]) ∧ Below w.heap.size w w') :
    Calls Try.prog 7 #[.int .i64 n0, .slice a1 len1 cap1] w fun e w' => e = .returned (.bool true) ∧ Below w.heap.size w w' := by
  have HS' := hid HS
  have HI' := hid HI
  clear HS HI
  by_cases hl1 : (len1 : Int) ≤ 1048576
  rotate_left
  · have hm : len1 ≤ maxLen := Nat.le_trans hrow1.2.1 hrow1.2.2.1
    clear HS' HI' hrow1
    go_enter Try.func7, Try.ntmps7
    go_wp2_with fail
    refine (szSeenS_over _ a1 len1 cap1 _ (by omega) (by omega) (by omega) hm).mono ?_
    rintro e w' ⟨rfl, hw⟩; obtain rfl := hw.symm
    go_wp2
    go_ret
    refine ⟨rfl, ?_⟩
    first | exact Below.refl _ _ | go_grown
  have HR1 := hid (hrow1.reads (by omega))
  have hxl1 : xs1.length ≤ 1048576 := by rw [hrow1.1]; omega
  clear hrow1
  go_enter Try.func7, Try.ntmps7
  go_wp2_with fail
  refine (szSeenS_at _ a1 len1 cap1 _ (by omega) (by omega) (by omega)).mono ?_
  rintro e w' ⟨rfl, hw⟩; obtain rfl := hw.symm
  have hd1 : decide (1048576 - (len1 : Int) < 0) = false := by simp; omega
  have Z : Hid (w.heap.size ≤ w.heap.size) := Nat.le_refl _
  have B : Hid (Below w.heap.size w w) := Below.refl _ _
  go_wp2_with fail
  refine (toSeenS_any _ xs1 _ (HR1.out.below B.out) hxl1).mono ?_
  rintro e w1 ⟨v1_1, rfl, o, b⟩
  have Z : Hid ((w.heap.size ≤ w.heap.size) ∧ w.heap.size ≤ w1.heap.size) := ⟨Z.out, b.size⟩
  have B : Hid (Below w.heap.size w w1) := B.out.trans (b.mono B.out.size)
  clear b
  have A1 := hid o
  clear o
  go_wp2_with fail
  refine (HS'.out v1_1 _ A1.out.reads).mono ?_
  rintro e w2 ⟨rfl, b⟩
  replace A1 := hid (A1.out.below b)
  have Z : Hid (((w.heap.size ≤ w.heap.size) ∧ w.heap.size ≤ w1.heap.size) ∧ w1.heap.size ≤ w2.heap.size) := ⟨Z.out, b.size⟩
  have B : Hid (Below w.heap.size w w2) := B.out.trans (b.mono B.out.size)
  clear b
  obtain ⟨w3, hV⟩ : ∃ V, V = w2.alloc (.cells #[.int .i64 r0.1, .int .i64 r0.2.1, .int .i64 r0.2.2.1, .int .i64 r0.2.2.2] 23) := ⟨_, rfl⟩
  have b : Below w2.heap.size w2 w3 := by rw [hV]; exact (Below.refl _ _).alloc (Nat.le_refl _) _
  have hz : w2.heap.size < w3.heap.size := by rw [hV]; simp
  replace A1 := hid (A1.out.below b)
  have KOW0 : Hid (GuCells w3 w2.heap.size r0) := by rw [hV]; exact FnExactSeeAll_boxGuess _ _
  have Z : Hid ((((w.heap.size ≤ w.heap.size) ∧ w.heap.size ≤ w1.heap.size) ∧ w1.heap.size ≤ w2.heap.size) ∧ w2.heap.size < w3.heap.size) := ⟨Z.out, hz⟩
  have B : Hid (Below w.heap.size w w3) := B.out.trans (b.mono B.out.size)
  have HV3 := hid hV
  clear b hz hV
  clear A1
  go_wp2_with fail
  rw [← HV3.out]
  refine (toSeenS_any _ xs1 _ (HR1.out.below B.out) hxl1).mono ?_
  rintro e w4 ⟨v1_4, rfl, o, b⟩
  replace KOW0 := hid (KOW0.out.below b KOW0.out.lt)
  have Z : Hid (((((w.heap.size ≤ w.heap.size) ∧ w.heap.size ≤ w1.heap.size) ∧ w1.heap.size ≤ w2.heap.size) ∧ w2.heap.size < w3.heap.size) ∧ w3.heap.size ≤ w4.heap.size) := ⟨Z.out, b.size⟩
  have B : Hid (Below w.heap.size w w4) := B.out.trans (b.mono B.out.size)
  clear b
  have X1 := hid o
  clear o
  go_wp2_with fail
  refine (HI'.out v1_4 _ X1.out.reads).mono ?_
  rintro e w5 ⟨rfl, b⟩
  replace X1 := hid (X1.out.below b)
  replace KOW0 := hid (KOW0.out.below b KOW0.out.lt)
  have Z : Hid ((((((w.heap.size ≤ w.heap.size) ∧ w.heap.size ≤ w1.heap.size) ∧ w1.heap.size ≤ w2.heap.size) ∧ w2.heap.size < w3.heap.size) ∧ w3.heap.size ≤ w4.heap.size) ∧ w4.heap.size ≤ w5.heap.size) := ⟨Z.out, b.size⟩
  have B : Hid (Below w.heap.size w w5) := B.out.trans (b.mono B.out.size)
  clear b
  obtain ⟨w6, hV⟩ : ∃ V, V = w5.alloc (.cells #[.int .i64 r0.1, .int .i64 r0.2.1, .int .i64 r0.2.2.1, .int .i64 r0.2.2.2] 23) := ⟨_, rfl⟩
  have b : Below w5.heap.size w5 w6 := by rw [hV]; exact (Below.refl _ _).alloc (Nat.le_refl _) _
  have hz : w5.heap.size < w6.heap.size := by rw [hV]; simp
  replace X1 := hid (X1.out.below b)
  replace KOW0 := hid (KOW0.out.below b KOW0.out.lt)
  have KOG0 : Hid (GuCells w6 w5.heap.size r0) := by rw [hV]; exact FnExactSeeAll_boxGuess _ _
  have Z : Hid (((((((w.heap.size ≤ w.heap.size) ∧ w.heap.size ≤ w1.heap.size) ∧ w1.heap.size ≤ w2.heap.size) ∧ w2.heap.size < w3.heap.size) ∧ w3.heap.size ≤ w4.heap.size) ∧ w4.heap.size ≤ w5.heap.size) ∧ w5.heap.size < w6.heap.size) := ⟨Z.out, hz⟩
  have B : Hid (Below w.heap.size w w6) := B.out.trans (b.mono B.out.size)
  have HV6 := hid hV
  clear b hz hV
  obtain ⟨q00, q01, q02, q03⟩ := KOG0.out
  obtain ⟨q10, q11, q12, q13⟩ := KOW0.out
  rw [HV6.out] at q00 q01 q02 q03 q10 q11 q12 q13
  go_wp2_with fail
  rw [← HV6.out]
  refine (eqGuess_same r0.1 r0.2.1 r0.2.2.1 r0.2.2.2 _).mono ?_
  rintro e w7 ⟨rfl, b⟩
  replace X1 := hid (X1.out.below b)
  replace KOW0 := hid (KOW0.out.below b KOW0.out.lt)
  replace KOG0 := hid (KOG0.out.below b KOG0.out.lt)
  have Z : Hid ((((((((w.heap.size ≤ w.heap.size) ∧ w.heap.size ≤ w1.heap.size) ∧ w1.heap.size ≤ w2.heap.size) ∧ w2.heap.size < w3.heap.size) ∧ w3.heap.size ≤ w4.heap.size) ∧ w4.heap.size ≤ w5.heap.size) ∧ w5.heap.size < w6.heap.size) ∧ w6.heap.size ≤ w7.heap.size) := ⟨Z.out, b.size⟩
  have B : Hid (Below w.heap.size w w7) := B.out.trans (b.mono B.out.size)
  clear b
  clear q00 q01 q02 q03 q10 q11 q12 q13
  go_wp2_with fail
  refine (toSeenS_any _ xs1 _ (HR1.out.below B.out) hxl1).mono ?_
  rintro e w8 ⟨v1_8, rfl, o, b⟩
  replace X1 := hid (X1.out.below b)
  replace KOW0 := hid (KOW0.out.below b KOW0.out.lt)
  replace KOG0 := hid (KOG0.out.below b KOG0.out.lt)
  have Z : Hid (((((((((w.heap.size ≤ w.heap.size) ∧ w.heap.size ≤ w1.heap.size) ∧ w1.heap.size ≤ w2.heap.size) ∧ w2.heap.size < w3.heap.size) ∧ w3.heap.size ≤ w4.heap.size) ∧ w4.heap.size ≤ w5.heap.size) ∧ w5.heap.size < w6.heap.size) ∧ w6.heap.size ≤ w7.heap.size) ∧ w7.heap.size ≤ w8.heap.size) := ⟨Z.out, b.size⟩
  have B : Hid (Below w.heap.size w w8) := B.out.trans (b.mono B.out.size)
  clear b
  have A1 := hid o
  clear o
  go_wp2_with fail
  refine (eqSeenS_same _ _ xs1 _ X1.out.reads A1.out.reads).mono ?_
  rintro e w9 ⟨rfl, b⟩
  replace X1 := hid (X1.out.below b)
  replace A1 := hid (A1.out.below b)
  replace KOW0 := hid (KOW0.out.below b KOW0.out.lt)
  replace KOG0 := hid (KOG0.out.below b KOG0.out.lt)
  have Z : Hid ((((((((((w.heap.size ≤ w.heap.size) ∧ w.heap.size ≤ w1.heap.size) ∧ w1.heap.size ≤ w2.heap.size) ∧ w2.heap.size < w3.heap.size) ∧ w3.heap.size ≤ w4.heap.size) ∧ w4.heap.size ≤ w5.heap.size) ∧ w5.heap.size < w6.heap.size) ∧ w6.heap.size ≤ w7.heap.size) ∧ w7.heap.size ≤ w8.heap.size) ∧ w8.heap.size ≤ w9.heap.size) := ⟨Z.out, b.size⟩
  have B : Hid (Below w.heap.size w w9) := B.out.trans (b.mono B.out.size)
  clear b
  clear A1
  go_wp2
  go_ret
  exact ⟨rfl, B.out⟩
end Go.Proofs.Yteeaebelknpdjbb
