/-
  The law FnExactPopHeap answers true at every argument, where both sides tell alike.
-/
import Derived.Test.YtndbdioignmaeauKWorkArg
import Derived.Test.YtndbdioignmaeauKWorkEq
import Derived.Test.YtndbdioignmaeauKWorkMark
import Derived.Test.YtndbdioignmaeauKWorkSz
import Derived.Test.YtndbdioignmaeauKWorkTo
import Derived.Test.YtndbdioignmaeauKWorkToS
import Derived.Deep.RegionHeld3
namespace Go.Proofs.Ytndbdioignmaeau
open Go.RowKit

theorem FnExactPopHeap_boxWork (w : World) (x : WkEl) : WkCells (w.alloc (.cells #[.int .i64 x.1, .int .i64 x.2.1, .int .i64 x.2.2] 26)) w.heap.size 0 x := by
  refine ⟨?_, ?_, ?_⟩ <;> simp
set_option maxHeartbeats 8000000 in
theorem FnExactPopHeap_law (a0 : Option Addr) (len0 cap0 : Nat) (xs0 : List WkEl) (w : World) (hrow0 : WkArg w a0 len0 cap0 xs0) (ys0 : List WkEl) (hy0 : ys0.length ≤ 1048576) (r1 : WkEl) (r2 : Bool)
    (HS : ∀ (v0 : Value) (w : World), WkReads w v0 xs0 → Calls Try.prog 9 #[v0] w fun e w' => ∃ u0, e = .returned (.tuple #[u0, (.agg #[.int .i64 r1.1, .int .i64 r1.2.1, .int .i64 r1.2.2]), .bool r2]) ∧ WkOwn w.heap.size w'.heap.size w' u0 ys0 ∧ Below w.heap.size w w')
    (HI : ∀ (v0 : Value) (w : World), WkReads w v0 xs0 → Calls Try.prog 11 #[v0] w fun e w' => ∃ u0, e = .returned (.tuple #[u0, (.agg #[.int .i64 r1.1, .int .i64 r1.2.1, .int .i64 r1.2.2]), .bool r2]) ∧ WkOwn w.heap.size w'.heap.size w' u0 ys0 ∧ Below w.heap.size w w') :
    Calls Try.prog 3 #[.slice a0 len0 cap0] w fun e w' => e = .returned (.bool true) ∧ Below w.heap.size w w' := by
  have HS' := hid HS
  have HI' := hid HI
  clear HS HI
  by_cases hl0 : (len0 : Int) ≤ 1048576
  rotate_left
  · have hm : len0 ≤ maxLen := Nat.le_trans hrow0.2.1 hrow0.2.2.1
    clear HS' HI' hrow0
    go_enter Try.func3, Try.ntmps3
    go_wp2_with fail
    refine (szWorkS_over _ a0 len0 cap0 _ (by omega) (by omega) (by omega) hm).mono ?_
    rintro e w' ⟨rfl, hw⟩; obtain rfl := hw.symm
    go_wp2
    go_ret
    refine ⟨rfl, ?_⟩
    first | exact Below.refl _ _ | go_grown
  have HR0 := hid (hrow0.reads (by omega))
  have hxl0 : xs0.length ≤ 1048576 := by rw [hrow0.1]; omega
  clear hrow0
  go_enter Try.func3, Try.ntmps3
  go_wp2_with fail
  refine (szWorkS_at _ a0 len0 cap0 _ (by omega) (by omega) (by omega)).mono ?_
  rintro e w' ⟨rfl, hw⟩; obtain rfl := hw.symm
  have hd0 : decide (1048576 - (len0 : Int) < 0) = false := by simp; omega
  have Z : Hid (w.heap.size ≤ w.heap.size) := Nat.le_refl _
  have B : Hid (Below w.heap.size w w) := Below.refl _ _
  go_wp2_with fail
  refine (toWorkS_any _ xs0 _ (HR0.out.below B.out) hxl0).mono ?_
  rintro e w1 ⟨v0_1, rfl, o, b⟩
  have Z : Hid ((w.heap.size ≤ w.heap.size) ∧ w.heap.size ≤ w1.heap.size) := ⟨Z.out, b.size⟩
  have B : Hid (Below w.heap.size w w1) := B.out.trans (b.mono B.out.size)
  clear b
  have A0 := hid o
  clear o
  go_wp2_with fail
  refine (HS'.out v0_1 _ A0.out.reads).mono ?_
  rintro e w2 ⟨ow_2, rfl, o, b⟩
  replace A0 := hid (A0.out.below b)
  have Z : Hid (((w.heap.size ≤ w.heap.size) ∧ w.heap.size ≤ w1.heap.size) ∧ w1.heap.size ≤ w2.heap.size) := ⟨Z.out, b.size⟩
  have B : Hid (Below w.heap.size w w2) := B.out.trans (b.mono B.out.size)
  clear b
  have OW := hid o
  clear o
  obtain ⟨w3, hV⟩ : ∃ V, V = w2.alloc (.cells #[.int .i64 r1.1, .int .i64 r1.2.1, .int .i64 r1.2.2] 26) := ⟨_, rfl⟩
  have b : Below w2.heap.size w2 w3 := by rw [hV]; exact (Below.refl _ _).alloc (Nat.le_refl _) _
  have hz : w2.heap.size < w3.heap.size := by rw [hV]; simp
  replace A0 := hid (A0.out.below b)
  replace OW := hid (OW.out.below b)
  have KOW1 : Hid (WkCells w3 w2.heap.size 0 r1) := by rw [hV]; exact FnExactPopHeap_boxWork _ _
  have Z : Hid ((((w.heap.size ≤ w.heap.size) ∧ w.heap.size ≤ w1.heap.size) ∧ w1.heap.size ≤ w2.heap.size) ∧ w2.heap.size < w3.heap.size) := ⟨Z.out, hz⟩
  have B : Hid (Below w.heap.size w w3) := B.out.trans (b.mono B.out.size)
  have HV3 := hid hV
  clear b hz hV
  clear A0
  go_wp2_with fail
  rw [← HV3.out]
  refine (toWorkS_any _ xs0 _ (HR0.out.below B.out) hxl0).mono ?_
  rintro e w4 ⟨v0_4, rfl, o, b⟩
  replace OW := hid (OW.out.below b)
  replace KOW1 := hid (KOW1.out.below b KOW1.out.lt)
  have Z : Hid (((((w.heap.size ≤ w.heap.size) ∧ w.heap.size ≤ w1.heap.size) ∧ w1.heap.size ≤ w2.heap.size) ∧ w2.heap.size < w3.heap.size) ∧ w3.heap.size ≤ w4.heap.size) := ⟨Z.out, b.size⟩
  have B : Hid (Below w.heap.size w w4) := B.out.trans (b.mono B.out.size)
  clear b
  have X0 := hid o
  clear o
  go_wp2_with fail
  refine (HI'.out v0_4 _ X0.out.reads).mono ?_
  rintro e w5 ⟨og_5, rfl, o, b⟩
  replace OW := hid (OW.out.below b)
  replace X0 := hid (X0.out.below b)
  replace KOW1 := hid (KOW1.out.below b KOW1.out.lt)
  have Z : Hid ((((((w.heap.size ≤ w.heap.size) ∧ w.heap.size ≤ w1.heap.size) ∧ w1.heap.size ≤ w2.heap.size) ∧ w2.heap.size < w3.heap.size) ∧ w3.heap.size ≤ w4.heap.size) ∧ w4.heap.size ≤ w5.heap.size) := ⟨Z.out, b.size⟩
  have B : Hid (Below w.heap.size w w5) := B.out.trans (b.mono B.out.size)
  clear b
  have OG := hid o
  clear o
  obtain ⟨w6, hV⟩ : ∃ V, V = w5.alloc (.cells #[.int .i64 r1.1, .int .i64 r1.2.1, .int .i64 r1.2.2] 26) := ⟨_, rfl⟩
  have b : Below w5.heap.size w5 w6 := by rw [hV]; exact (Below.refl _ _).alloc (Nat.le_refl _) _
  have hz : w5.heap.size < w6.heap.size := by rw [hV]; simp
  replace OW := hid (OW.out.below b)
  replace X0 := hid (X0.out.below b)
  replace OG := hid (OG.out.below b)
  replace KOW1 := hid (KOW1.out.below b KOW1.out.lt)
  have KOG1 : Hid (WkCells w6 w5.heap.size 0 r1) := by rw [hV]; exact FnExactPopHeap_boxWork _ _
  have Z : Hid (((((((w.heap.size ≤ w.heap.size) ∧ w.heap.size ≤ w1.heap.size) ∧ w1.heap.size ≤ w2.heap.size) ∧ w2.heap.size < w3.heap.size) ∧ w3.heap.size ≤ w4.heap.size) ∧ w4.heap.size ≤ w5.heap.size) ∧ w5.heap.size < w6.heap.size) := ⟨Z.out, hz⟩
  have B : Hid (Below w.heap.size w w6) := B.out.trans (b.mono B.out.size)
  have HV6 := hid hV
  clear b hz hV
  go_wp2_with fail
  rw [← HV6.out]
  refine (eqWorkS_same _ _ ys0 _ OG.out.reads OW.out.reads).mono ?_
  rintro e w7 ⟨rfl, b⟩
  replace OW := hid (OW.out.below b)
  replace X0 := hid (X0.out.below b)
  replace OG := hid (OG.out.below b)
  replace KOW1 := hid (KOW1.out.below b KOW1.out.lt)
  replace KOG1 := hid (KOG1.out.below b KOG1.out.lt)
  have Z : Hid ((((((((w.heap.size ≤ w.heap.size) ∧ w.heap.size ≤ w1.heap.size) ∧ w1.heap.size ≤ w2.heap.size) ∧ w2.heap.size < w3.heap.size) ∧ w3.heap.size ≤ w4.heap.size) ∧ w4.heap.size ≤ w5.heap.size) ∧ w5.heap.size < w6.heap.size) ∧ w6.heap.size ≤ w7.heap.size) := ⟨Z.out, b.size⟩
  have B : Hid (Below w.heap.size w w7) := B.out.trans (b.mono B.out.size)
  clear b
  obtain ⟨q00, q01, q02⟩ := KOG1.out
  obtain ⟨q10, q11, q12⟩ := KOW1.out
  go_wp2_with fail
  refine (eqWork_same r1.1 r1.2.1 r1.2.2 _).mono ?_
  rintro e w8 ⟨rfl, b⟩
  replace OW := hid (OW.out.below b)
  replace X0 := hid (X0.out.below b)
  replace OG := hid (OG.out.below b)
  replace KOW1 := hid (KOW1.out.below b KOW1.out.lt)
  replace KOG1 := hid (KOG1.out.below b KOG1.out.lt)
  have Z : Hid (((((((((w.heap.size ≤ w.heap.size) ∧ w.heap.size ≤ w1.heap.size) ∧ w1.heap.size ≤ w2.heap.size) ∧ w2.heap.size < w3.heap.size) ∧ w3.heap.size ≤ w4.heap.size) ∧ w4.heap.size ≤ w5.heap.size) ∧ w5.heap.size < w6.heap.size) ∧ w6.heap.size ≤ w7.heap.size) ∧ w7.heap.size ≤ w8.heap.size) := ⟨Z.out, b.size⟩
  have B : Hid (Below w.heap.size w w8) := B.out.trans (b.mono B.out.size)
  clear b
  clear q00 q01 q02 q10 q11 q12
  go_wp2_with fail
  refine (toWorkS_any _ xs0 _ (HR0.out.below B.out) hxl0).mono ?_
  rintro e w9 ⟨v0_9, rfl, o, b⟩
  replace OW := hid (OW.out.below b)
  replace X0 := hid (X0.out.below b)
  replace OG := hid (OG.out.below b)
  replace KOW1 := hid (KOW1.out.below b KOW1.out.lt)
  replace KOG1 := hid (KOG1.out.below b KOG1.out.lt)
  have Z : Hid ((((((((((w.heap.size ≤ w.heap.size) ∧ w.heap.size ≤ w1.heap.size) ∧ w1.heap.size ≤ w2.heap.size) ∧ w2.heap.size < w3.heap.size) ∧ w3.heap.size ≤ w4.heap.size) ∧ w4.heap.size ≤ w5.heap.size) ∧ w5.heap.size < w6.heap.size) ∧ w6.heap.size ≤ w7.heap.size) ∧ w7.heap.size ≤ w8.heap.size) ∧ w8.heap.size ≤ w9.heap.size) := ⟨Z.out, b.size⟩
  have B : Hid (Below w.heap.size w w9) := B.out.trans (b.mono B.out.size)
  clear b
  have A0 := hid o
  clear o
  go_wp2_with fail
  refine (eqWorkS_same _ _ xs0 _ X0.out.reads A0.out.reads).mono ?_
  rintro e w10 ⟨rfl, b⟩
  replace OW := hid (OW.out.below b)
  replace X0 := hid (X0.out.below b)
  replace OG := hid (OG.out.below b)
  replace A0 := hid (A0.out.below b)
  replace KOW1 := hid (KOW1.out.below b KOW1.out.lt)
  replace KOG1 := hid (KOG1.out.below b KOG1.out.lt)
  have Z : Hid (((((((((((w.heap.size ≤ w.heap.size) ∧ w.heap.size ≤ w1.heap.size) ∧ w1.heap.size ≤ w2.heap.size) ∧ w2.heap.size < w3.heap.size) ∧ w3.heap.size ≤ w4.heap.size) ∧ w4.heap.size ≤ w5.heap.size) ∧ w5.heap.size < w6.heap.size) ∧ w6.heap.size ≤ w7.heap.size) ∧ w7.heap.size ≤ w8.heap.size) ∧ w8.heap.size ≤ w9.heap.size) ∧ w9.heap.size ≤ w10.heap.size) := ⟨Z.out, b.size⟩
  have B : Hid (Below w.heap.size w w10) := B.out.trans (b.mono B.out.size)
  clear b
  clear A0
  obtain ⟨k0, hm, k0_0, k0_1⟩ : ∃ m : Int, m = 1 + (3 * xs0.length : Nat) ∧ 0 ≤ m ∧ m ≤ 10000000 := ⟨_, rfl, by omega, by omega⟩
  have HM_k0 := hid hm
  clear hm
  go_wp2_with fail
  refine (markWorkS_any _ _ _ xs0 _ k0 _ X0.out hxl0 (by omega) (by omega) HM_k0.out).mono ?_
  rintro e w11 ⟨rfl, o, b, on⟩
  have OW := hid (OW.out.only on (by have := Z.out; omega))
  have OG := hid (OG.out.only on (by have := Z.out; omega))
  have KOW1 := hid (KOW1.out.of_block (on.2 _ (by have := Z.out; omega)))
  have KOG1 := hid (KOG1.out.of_block (on.2 _ (by have := Z.out; omega)))
  have X0 := hid o
  have Z : Hid ((((((((((((w.heap.size ≤ w.heap.size) ∧ w.heap.size ≤ w1.heap.size) ∧ w1.heap.size ≤ w2.heap.size) ∧ w2.heap.size < w3.heap.size) ∧ w3.heap.size ≤ w4.heap.size) ∧ w4.heap.size ≤ w5.heap.size) ∧ w5.heap.size < w6.heap.size) ∧ w6.heap.size ≤ w7.heap.size) ∧ w7.heap.size ≤ w8.heap.size) ∧ w8.heap.size ≤ w9.heap.size) ∧ w9.heap.size ≤ w10.heap.size) ∧ w10.heap.size ≤ w11.heap.size) := ⟨Z.out, b.size⟩
  have B : Hid (Below w.heap.size w w11) := B.out.trans (b.mono (by have := Z.out; omega))
  clear b o on
  go_wp2_with fail
  refine (eqWorkS_same _ _ ys0 _ OG.out.reads OW.out.reads).mono ?_
  rintro e w12 ⟨rfl, b⟩
  replace OW := hid (OW.out.below b)
  replace X0 := hid (X0.out.below b)
  replace OG := hid (OG.out.below b)
  replace KOW1 := hid (KOW1.out.below b KOW1.out.lt)
  replace KOG1 := hid (KOG1.out.below b KOG1.out.lt)
  have Z : Hid (((((((((((((w.heap.size ≤ w.heap.size) ∧ w.heap.size ≤ w1.heap.size) ∧ w1.heap.size ≤ w2.heap.size) ∧ w2.heap.size < w3.heap.size) ∧ w3.heap.size ≤ w4.heap.size) ∧ w4.heap.size ≤ w5.heap.size) ∧ w5.heap.size < w6.heap.size) ∧ w6.heap.size ≤ w7.heap.size) ∧ w7.heap.size ≤ w8.heap.size) ∧ w8.heap.size ≤ w9.heap.size) ∧ w9.heap.size ≤ w10.heap.size) ∧ w10.heap.size ≤ w11.heap.size) ∧ w11.heap.size ≤ w12.heap.size) := ⟨Z.out, b.size⟩
  have B : Hid (Below w.heap.size w w12) := B.out.trans (b.mono B.out.size)
  clear b
  obtain ⟨q00, q01, q02⟩ := KOG1.out
  obtain ⟨q10, q11, q12⟩ := KOW1.out
  go_wp2_with fail
  refine (eqWork_same r1.1 r1.2.1 r1.2.2 _).mono ?_
  rintro e w13 ⟨rfl, b⟩
  replace OW := hid (OW.out.below b)
  replace X0 := hid (X0.out.below b)
  replace OG := hid (OG.out.below b)
  replace KOW1 := hid (KOW1.out.below b KOW1.out.lt)
  replace KOG1 := hid (KOG1.out.below b KOG1.out.lt)
  have Z : Hid ((((((((((((((w.heap.size ≤ w.heap.size) ∧ w.heap.size ≤ w1.heap.size) ∧ w1.heap.size ≤ w2.heap.size) ∧ w2.heap.size < w3.heap.size) ∧ w3.heap.size ≤ w4.heap.size) ∧ w4.heap.size ≤ w5.heap.size) ∧ w5.heap.size < w6.heap.size) ∧ w6.heap.size ≤ w7.heap.size) ∧ w7.heap.size ≤ w8.heap.size) ∧ w8.heap.size ≤ w9.heap.size) ∧ w9.heap.size ≤ w10.heap.size) ∧ w10.heap.size ≤ w11.heap.size) ∧ w11.heap.size ≤ w12.heap.size) ∧ w12.heap.size ≤ w13.heap.size) := ⟨Z.out, b.size⟩
  have B : Hid (Below w.heap.size w w13) := B.out.trans (b.mono B.out.size)
  clear b
  clear q00 q01 q02 q10 q11 q12
  clear X0
  obtain ⟨m0, hm, m0_0, m0_1⟩ : ∃ m : Int, m = 1 + (3 * ys0.length : Nat) ∧ 0 ≤ m ∧ m ≤ 10000000 := ⟨_, rfl, by omega, by omega⟩
  have HM_m0 := hid hm
  clear hm
  go_wp2_with fail
  refine (markWorkS_any _ _ _ ys0 _ m0 _ OG.out hy0 (by omega) (by omega) HM_m0.out).mono ?_
  rintro e w14 ⟨rfl, o, b, on⟩
  have OW := hid (OW.out.only on (by have := Z.out; omega))
  have KOW1 := hid (KOW1.out.of_block (on.2 _ (by have := Z.out; omega)))
  have KOG1 := hid (KOG1.out.of_block (on.2 _ (by have := Z.out; omega)))
  have OG := hid o
  have Z : Hid (((((((((((((((w.heap.size ≤ w.heap.size) ∧ w.heap.size ≤ w1.heap.size) ∧ w1.heap.size ≤ w2.heap.size) ∧ w2.heap.size < w3.heap.size) ∧ w3.heap.size ≤ w4.heap.size) ∧ w4.heap.size ≤ w5.heap.size) ∧ w5.heap.size < w6.heap.size) ∧ w6.heap.size ≤ w7.heap.size) ∧ w7.heap.size ≤ w8.heap.size) ∧ w8.heap.size ≤ w9.heap.size) ∧ w9.heap.size ≤ w10.heap.size) ∧ w10.heap.size ≤ w11.heap.size) ∧ w11.heap.size ≤ w12.heap.size) ∧ w12.heap.size ≤ w13.heap.size) ∧ w13.heap.size ≤ w14.heap.size) := ⟨Z.out, b.size⟩
  have B : Hid (Below w.heap.size w w14) := B.out.trans (b.mono (by have := Z.out; omega))
  clear b o on
  go_wp2_with fail
  refine (heldWorkS_any _ ys0.length _ m0 _ OG.out.reads hy0 (by omega) (by omega) HM_m0.out).mono ?_
  rintro e w' ⟨rfl, hw⟩; obtain rfl := hw.symm
  go_wp2_with fail
  refine (toWorkS_any _ xs0 _ (HR0.out.below B.out) hxl0).mono ?_
  rintro e w15 ⟨v0_15, rfl, o, b⟩
  replace OW := hid (OW.out.below b)
  replace OG := hid (OG.out.below b)
  replace KOW1 := hid (KOW1.out.below b KOW1.out.lt)
  replace KOG1 := hid (KOG1.out.below b KOG1.out.lt)
  have Z : Hid ((((((((((((((((w.heap.size ≤ w.heap.size) ∧ w.heap.size ≤ w1.heap.size) ∧ w1.heap.size ≤ w2.heap.size) ∧ w2.heap.size < w3.heap.size) ∧ w3.heap.size ≤ w4.heap.size) ∧ w4.heap.size ≤ w5.heap.size) ∧ w5.heap.size < w6.heap.size) ∧ w6.heap.size ≤ w7.heap.size) ∧ w7.heap.size ≤ w8.heap.size) ∧ w8.heap.size ≤ w9.heap.size) ∧ w9.heap.size ≤ w10.heap.size) ∧ w10.heap.size ≤ w11.heap.size) ∧ w11.heap.size ≤ w12.heap.size) ∧ w12.heap.size ≤ w13.heap.size) ∧ w13.heap.size ≤ w14.heap.size) ∧ w14.heap.size ≤ w15.heap.size) := ⟨Z.out, b.size⟩
  have B : Hid (Below w.heap.size w w15) := B.out.trans (b.mono B.out.size)
  clear b
  have A0 := hid o
  clear o
  go_wp2_with fail
  refine (HI'.out v0_15 _ A0.out.reads).mono ?_
  rintro e w16 ⟨oh_16, rfl, o, b⟩
  replace OW := hid (OW.out.below b)
  replace OG := hid (OG.out.below b)
  replace A0 := hid (A0.out.below b)
  replace KOW1 := hid (KOW1.out.below b KOW1.out.lt)
  replace KOG1 := hid (KOG1.out.below b KOG1.out.lt)
  have Z : Hid (((((((((((((((((w.heap.size ≤ w.heap.size) ∧ w.heap.size ≤ w1.heap.size) ∧ w1.heap.size ≤ w2.heap.size) ∧ w2.heap.size < w3.heap.size) ∧ w3.heap.size ≤ w4.heap.size) ∧ w4.heap.size ≤ w5.heap.size) ∧ w5.heap.size < w6.heap.size) ∧ w6.heap.size ≤ w7.heap.size) ∧ w7.heap.size ≤ w8.heap.size) ∧ w8.heap.size ≤ w9.heap.size) ∧ w9.heap.size ≤ w10.heap.size) ∧ w10.heap.size ≤ w11.heap.size) ∧ w11.heap.size ≤ w12.heap.size) ∧ w12.heap.size ≤ w13.heap.size) ∧ w13.heap.size ≤ w14.heap.size) ∧ w14.heap.size ≤ w15.heap.size) ∧ w15.heap.size ≤ w16.heap.size) := ⟨Z.out, b.size⟩
  have B : Hid (Below w.heap.size w w16) := B.out.trans (b.mono B.out.size)
  clear b
  have OH := hid o
  clear o
  obtain ⟨w17, hV⟩ : ∃ V, V = w16.alloc (.cells #[.int .i64 r1.1, .int .i64 r1.2.1, .int .i64 r1.2.2] 26) := ⟨_, rfl⟩
  have b : Below w16.heap.size w16 w17 := by rw [hV]; exact (Below.refl _ _).alloc (Nat.le_refl _) _
  have hz : w16.heap.size < w17.heap.size := by rw [hV]; simp
  replace OW := hid (OW.out.below b)
  replace OG := hid (OG.out.below b)
  replace A0 := hid (A0.out.below b)
  replace OH := hid (OH.out.below b)
  replace KOW1 := hid (KOW1.out.below b KOW1.out.lt)
  replace KOG1 := hid (KOG1.out.below b KOG1.out.lt)
  have KOH1 : Hid (WkCells w17 w16.heap.size 0 r1) := by rw [hV]; exact FnExactPopHeap_boxWork _ _
  have Z : Hid ((((((((((((((((((w.heap.size ≤ w.heap.size) ∧ w.heap.size ≤ w1.heap.size) ∧ w1.heap.size ≤ w2.heap.size) ∧ w2.heap.size < w3.heap.size) ∧ w3.heap.size ≤ w4.heap.size) ∧ w4.heap.size ≤ w5.heap.size) ∧ w5.heap.size < w6.heap.size) ∧ w6.heap.size ≤ w7.heap.size) ∧ w7.heap.size ≤ w8.heap.size) ∧ w8.heap.size ≤ w9.heap.size) ∧ w9.heap.size ≤ w10.heap.size) ∧ w10.heap.size ≤ w11.heap.size) ∧ w11.heap.size ≤ w12.heap.size) ∧ w12.heap.size ≤ w13.heap.size) ∧ w13.heap.size ≤ w14.heap.size) ∧ w14.heap.size ≤ w15.heap.size) ∧ w15.heap.size ≤ w16.heap.size) ∧ w16.heap.size < w17.heap.size) := ⟨Z.out, hz⟩
  have B : Hid (Below w.heap.size w w17) := B.out.trans (b.mono B.out.size)
  have HV17 := hid hV
  clear b hz hV
  clear A0
  go_wp2_with fail
  rw [← HV17.out]
  refine (eqWorkS_same _ _ ys0 _ OH.out.reads OW.out.reads).mono ?_
  rintro e w18 ⟨rfl, b⟩
  replace OW := hid (OW.out.below b)
  replace OG := hid (OG.out.below b)
  replace OH := hid (OH.out.below b)
  replace KOW1 := hid (KOW1.out.below b KOW1.out.lt)
  replace KOG1 := hid (KOG1.out.below b KOG1.out.lt)
  replace KOH1 := hid (KOH1.out.below b KOH1.out.lt)
  have Z : Hid (((((((((((((((((((w.heap.size ≤ w.heap.size) ∧ w.heap.size ≤ w1.heap.size) ∧ w1.heap.size ≤ w2.heap.size) ∧ w2.heap.size < w3.heap.size) ∧ w3.heap.size ≤ w4.heap.size) ∧ w4.heap.size ≤ w5.heap.size) ∧ w5.heap.size < w6.heap.size) ∧ w6.heap.size ≤ w7.heap.size) ∧ w7.heap.size ≤ w8.heap.size) ∧ w8.heap.size ≤ w9.heap.size) ∧ w9.heap.size ≤ w10.heap.size) ∧ w10.heap.size ≤ w11.heap.size) ∧ w11.heap.size ≤ w12.heap.size) ∧ w12.heap.size ≤ w13.heap.size) ∧ w13.heap.size ≤ w14.heap.size) ∧ w14.heap.size ≤ w15.heap.size) ∧ w15.heap.size ≤ w16.heap.size) ∧ w16.heap.size < w17.heap.size) ∧ w17.heap.size ≤ w18.heap.size) := ⟨Z.out, b.size⟩
  have B : Hid (Below w.heap.size w w18) := B.out.trans (b.mono B.out.size)
  clear b
  obtain ⟨q00, q01, q02⟩ := KOH1.out
  obtain ⟨q10, q11, q12⟩ := KOW1.out
  go_wp2_with fail
  refine (eqWork_same r1.1 r1.2.1 r1.2.2 _).mono ?_
  rintro e w19 ⟨rfl, b⟩
  replace OW := hid (OW.out.below b)
  replace OG := hid (OG.out.below b)
  replace OH := hid (OH.out.below b)
  replace KOW1 := hid (KOW1.out.below b KOW1.out.lt)
  replace KOG1 := hid (KOG1.out.below b KOG1.out.lt)
  replace KOH1 := hid (KOH1.out.below b KOH1.out.lt)
  have Z : Hid ((((((((((((((((((((w.heap.size ≤ w.heap.size) ∧ w.heap.size ≤ w1.heap.size) ∧ w1.heap.size ≤ w2.heap.size) ∧ w2.heap.size < w3.heap.size) ∧ w3.heap.size ≤ w4.heap.size) ∧ w4.heap.size ≤ w5.heap.size) ∧ w5.heap.size < w6.heap.size) ∧ w6.heap.size ≤ w7.heap.size) ∧ w7.heap.size ≤ w8.heap.size) ∧ w8.heap.size ≤ w9.heap.size) ∧ w9.heap.size ≤ w10.heap.size) ∧ w10.heap.size ≤ w11.heap.size) ∧ w11.heap.size ≤ w12.heap.size) ∧ w12.heap.size ≤ w13.heap.size) ∧ w13.heap.size ≤ w14.heap.size) ∧ w14.heap.size ≤ w15.heap.size) ∧ w15.heap.size ≤ w16.heap.size) ∧ w16.heap.size < w17.heap.size) ∧ w17.heap.size ≤ w18.heap.size) ∧ w18.heap.size ≤ w19.heap.size) := ⟨Z.out, b.size⟩
  have B : Hid (Below w.heap.size w w19) := B.out.trans (b.mono B.out.size)
  clear b
  clear q00 q01 q02 q10 q11 q12
  go_wp2_with fail
  refine (heldWorkS_any _ ys0.length _ m0 _ OG.out.reads hy0 (by omega) (by omega) HM_m0.out).mono ?_
  rintro e w' ⟨rfl, hw⟩; obtain rfl := hw.symm
  go_wp2
  go_ret
  exact ⟨rfl, B.out⟩
end Go.Proofs.Ytndbdioignmaeau
