/-
  The law FnExactAdmitJob answers true at every argument, where both sides tell alike.
-/
import Derived.Test.YtobkockikpgcoawKJobArg
import Derived.Test.YtobkockikpgcoawKJobEq
import Derived.Test.YtobkockikpgcoawKJobHeld
import Derived.Test.YtobkockikpgcoawKJobMark
import Derived.Test.YtobkockikpgcoawKJobSz
import Derived.Test.YtobkockikpgcoawKJobTo
import Derived.Test.YtobkockikpgcoawKJobToS
import Derived.Deep.RegionHeld3
namespace Go.Proofs.Ytobkockikpgcoaw
open Go.RowKit

/-- What was handed in lies as it was laid; nothing old is written. -/
def FnExactAdmitJob_B (w : World) (x1 : JbEl) (w' : World) : Prop := w'.cell? ⟨w.heap.size, 0, none⟩ = some (.int .i64 x1.1) ∧ w'.cell? ⟨w.heap.size, 1, none⟩ = some (.int .i64 x1.2.1) ∧ w'.cell? ⟨w.heap.size, 2, none⟩ = some (.int .i64 x1.2.2) ∧ Below w.heap.size w w' ∧ w.heap.size + 1 ≤ w'.heap.size
theorem FnExactAdmitJob_B.on {w wa wb : World} {x1 : JbEl} {B : Nat} (h : FnExactAdmitJob_B w x1 wa) (hb : Below B wa wb) (hB : w.heap.size + 1 ≤ B) : FnExactAdmitJob_B w x1 wb :=
  ⟨(hb.cell (p := ⟨w.heap.size, 0, none⟩) (by simp; omega)).trans h.1, (hb.cell (p := ⟨w.heap.size, 1, none⟩) (by simp; omega)).trans h.2.1, (hb.cell (p := ⟨w.heap.size, 2, none⟩) (by simp; omega)).trans h.2.2.1, h.2.2.2.1.trans (hb.mono (by omega)), Nat.le_trans h.2.2.2.2 hb.size⟩
theorem FnExactAdmitJob_B.below {w wa wb : World} {x1 : JbEl} (h : FnExactAdmitJob_B w x1 wa) (hb : Below wa.heap.size wa wb) : FnExactAdmitJob_B w x1 wb := h.on hb h.2.2.2.2
theorem FnExactAdmitJob_B.old {w wa : World} {x1 : JbEl} (h : FnExactAdmitJob_B w x1 wa) : Below w.heap.size w wa := h.2.2.2.1

def FnExactAdmitJob_X (w : World) (x1 : JbEl) (n0 : Nat) (L : World → Prop) (w' : World) : Prop := FnExactAdmitJob_B w x1 w' ∧ n0 ≤ w'.heap.size ∧ L w'
theorem FnExactAdmitJob_X.below {w wa wb : World} {x1 : JbEl} {n0 : Nat} {L : World → Prop} (h : FnExactAdmitJob_X w x1 n0 L wa) (hL : ∀ wa wb, Below wa.heap.size wa wb → L wa → L wb) (hb : Below wa.heap.size wa wb) : FnExactAdmitJob_X w x1 n0 L wb := ⟨h.1.below hb, Nat.le_trans h.2.1 hb.size, hL _ _ hb h.2.2⟩
theorem FnExactAdmitJob_X.old {w wa : World} {x1 : JbEl} {n0 : Nat} {L : World → Prop} (h : FnExactAdmitJob_X w x1 n0 L wa) : Below w.heap.size w wa := h.1.old
theorem FnExactAdmitJob_X.sz {w wa : World} {x1 : JbEl} {n0 : Nat} {L : World → Prop} (h : FnExactAdmitJob_X w x1 n0 L wa) : n0 ≤ wa.heap.size := h.2.1

set_option maxHeartbeats 8000000 in
theorem FnExactAdmitJob_law (a0 : Option Addr) (len0 cap0 : Nat) (xs0 : List JbEl) (x1 : JbEl) (w : World) (hrow0 : JbArg w a0 len0 cap0 xs0) (ys0 : List JbEl) (hy0 : ys0.length ≤ 1048576) (r1 : Bool)
    (HS : ∀ (v0 : Value) (w : World), JbReads w v0 xs0 → Calls Try.prog 5 #[v0, (.agg #[.int .i64 x1.1, .int .i64 x1.2.1, .int .i64 x1.2.2])] w fun e w' => ∃ u0, e = .returned (.tuple #[u0, .bool r1]) ∧ JbOwn w.heap.size w'.heap.size w' u0 ys0 ∧ Below w.heap.size w w')
    (HI : ∀ (v0 : Value) (w : World), JbReads w v0 xs0 → Calls Try.prog 8 #[v0, (.agg #[.int .i64 x1.1, .int .i64 x1.2.1, .int .i64 x1.2.2])] w fun e w' => ∃ u0, e = .returned (.tuple #[u0, .bool r1]) ∧ JbOwn w.heap.size w'.heap.size w' u0 ys0 ∧ Below w.heap.size w w') :
    Calls Try.prog 3 #[.slice a0 len0 cap0, (.agg #[.int .i64 x1.1, .int .i64 x1.2.1, .int .i64 x1.2.2])] w fun e w' => e = .returned (.bool true) ∧ Below w.heap.size w w' := by
  have HS' := hid HS
  have HI' := hid HI
  clear HS HI
  by_cases hl0 : (len0 : Int) ≤ 1048576
  rotate_left
  · have hm : len0 ≤ maxLen := Nat.le_trans hrow0.2.1 hrow0.2.2.1
    clear HS' HI' hrow0
    go_enter Try.func3, Try.ntmps3
    go_wp2_with fail
    refine (szJobS_over _ a0 len0 cap0 _ (by omega) (by omega) (by omega) hm).mono ?_
    rintro e w' ⟨rfl, hw⟩; obtain rfl := hw.symm
    go_wp2
    go_ret
    refine ⟨rfl, ?_⟩
    first | exact Below.refl _ _ | go_grown
  have HR0 := hid (hrow0.reads (by omega))
  have hxl0 : xs0.length ≤ 1048576 := by rw [hrow0.1]; omega
  clear hrow0
  go_enter Try.func3, Try.ntmps3
  go_wp2_with fail
  refine (szJobS_at _ a0 len0 cap0 _ (by omega) (by omega) (by omega)).mono ?_
  rintro e w' ⟨rfl, hw⟩; obtain rfl := hw.symm
  have hd0 : decide (1048576 - (len0 : Int) < 0) = false := by simp; omega
  have Z : Hid (w.heap.size ≤ w.heap.size) := Nat.le_refl _
  have hL : Hid (∀ wa wb, Below wa.heap.size wa wb → (fun _ => True) wa → (fun _ => True) wb) := fun _ _ hb h => trivial
  go_wp2_with fail
  go_region_held3 (fun w' => w'.cell? ⟨w.heap.size, 0, none⟩ = some (.int .i64 x1.1) ∧ w'.cell? ⟨w.heap.size, 1, none⟩ = some (.int .i64 x1.2.1) ∧ w'.cell? ⟨w.heap.size, 2, none⟩ = some (.int .i64 x1.2.2) ∧ FnExactAdmitJob_X w x1 (w.heap.size) (fun _ => True) w') (first | (refine ⟨?_, ?_, ?_, ?_⟩ <;> assumption) | (refine ⟨by simp, by simp, by simp, ⟨⟨by simp, by simp, by simp, by go_grown, by simp <;> omega⟩, by simp <;> omega, trivial⟩⟩))
    (first
      | (go_at_call 6; refine (toJobS_any _ xs0 _ (HR0.out.below (FnExactAdmitJob_X.old (by first | assumption | exact (by assumption : _ ∧ _ ∧ _ ∧ FnExactAdmitJob_X w x1 (w.heap.size) (fun _ => True) _).2.2.2))) hxl0).mono ?_; rintro e wt ⟨v0, rfl, o0, b⟩; have qX := FnExactAdmitJob_X.below (by first | assumption | exact (by assumption : _ ∧ _ ∧ _ ∧ FnExactAdmitJob_X w x1 (w.heap.size) (fun _ => True) _).2.2.2) hL.out b; have q0 := qX.1.1; have q1 := qX.1.2.1; have q2 := qX.1.2.2.1; clear b)
      | (go_at_call 7; refine (toJob_any _ _ _ _).mono ?_; rintro e wt ⟨rfl, b⟩; have qX := FnExactAdmitJob_X.below (by first | assumption | exact (by assumption : _ ∧ _ ∧ _ ∧ FnExactAdmitJob_X w x1 (w.heap.size) (fun _ => True) _).2.2.2) hL.out b; have q0 := qX.1.1; have q1 := qX.1.2.1; have q2 := qX.1.2.2.1; try have o0 := JbOwn.below o0 b; clear b)
      | (go_at_call 5; refine (HS'.out _ _ (JbOwn.reads o0)).mono ?_; have z0 := (FnExactAdmitJob_X.sz (by first | assumption | exact (by assumption : _ ∧ _ ∧ _ ∧ FnExactAdmitJob_X w x1 (w.heap.size) (fun _ => True) _).2.2.2)); rintro e w1 ⟨ow_1, rfl, o, b⟩; have z1 := b.size; have qX := FnExactAdmitJob_X.below (by first | assumption | exact (by assumption : _ ∧ _ ∧ _ ∧ FnExactAdmitJob_X w x1 (w.heap.size) (fun _ => True) _).2.2.2) hL.out b; have q0 := qX.1.1; have q1 := qX.1.2.1; have q2 := qX.1.2.2.1; clear b))
  have QX := hid qX.1
  obtain ⟨loOW, hlo, O0⟩ : ∃ lo, (w.heap.size ≤ lo ∧ lo ≤ w1.heap.size) ∧ JbOwn lo w1.heap.size w1 ow_1 ys0 := ⟨_, ⟨z0, z1⟩, o⟩
  have OW := hid O0
  have Z : Hid ((w.heap.size ≤ w.heap.size) ∧ (w.heap.size ≤ loOW ∧ loOW ≤ w1.heap.size)) := ⟨Z.out, hlo⟩
  clear qX hL q0 q1 q2 o O0 hlo z0 z1 o0
  have B := hid QX.out.old
  have ZX : Hid (w.heap.size + 1 ≤ w1.heap.size) := QX.out.2.2.2.2
  go_wp2_with fail
  refine (toJobS_any _ xs0 _ (HR0.out.below B.out) hxl0).mono ?_
  rintro e w2 ⟨v0_2, rfl, o, b⟩
  replace OW := hid (OW.out.below b)
  have Z : Hid (((w.heap.size ≤ w.heap.size) ∧ (w.heap.size ≤ loOW ∧ loOW ≤ w1.heap.size)) ∧ w1.heap.size ≤ w2.heap.size) := ⟨Z.out, b.size⟩
  have QX := hid (QX.out.below b)
  have B : Hid (Below w.heap.size w w2) := B.out.trans (b.mono B.out.size)
  clear b
  have X0 := hid o
  clear o
  have c0 := QX.out.1
  have c1 := QX.out.2.1
  have c2 := QX.out.2.2.1
  go_wp2_with fail
  refine (toJob_any _ _ _ _).mono ?_
  rintro e w3 ⟨rfl, b⟩
  replace OW := hid (OW.out.below b)
  replace X0 := hid (X0.out.below b)
  have Z : Hid ((((w.heap.size ≤ w.heap.size) ∧ (w.heap.size ≤ loOW ∧ loOW ≤ w1.heap.size)) ∧ w1.heap.size ≤ w2.heap.size) ∧ w2.heap.size ≤ w3.heap.size) := ⟨Z.out, b.size⟩
  have QX := hid (QX.out.below b)
  have B : Hid (Below w.heap.size w w3) := B.out.trans (b.mono B.out.size)
  clear b
  clear c0 c1 c2
  go_wp2_with fail
  refine (HI'.out v0_2 _ X0.out.reads).mono ?_
  rintro e w4 ⟨og_4, rfl, o, b⟩
  replace OW := hid (OW.out.below b)
  replace X0 := hid (X0.out.below b)
  have Z : Hid (((((w.heap.size ≤ w.heap.size) ∧ (w.heap.size ≤ loOW ∧ loOW ≤ w1.heap.size)) ∧ w1.heap.size ≤ w2.heap.size) ∧ w2.heap.size ≤ w3.heap.size) ∧ w3.heap.size ≤ w4.heap.size) := ⟨Z.out, b.size⟩
  have QX := hid (QX.out.below b)
  have B : Hid (Below w.heap.size w w4) := B.out.trans (b.mono B.out.size)
  clear b
  have OG := hid o
  clear o
  go_wp2_with fail
  refine (eqJobS_same _ _ ys0 _ OG.out.reads OW.out.reads).mono ?_
  rintro e w5 ⟨rfl, b⟩
  replace OW := hid (OW.out.below b)
  replace X0 := hid (X0.out.below b)
  replace OG := hid (OG.out.below b)
  have Z : Hid ((((((w.heap.size ≤ w.heap.size) ∧ (w.heap.size ≤ loOW ∧ loOW ≤ w1.heap.size)) ∧ w1.heap.size ≤ w2.heap.size) ∧ w2.heap.size ≤ w3.heap.size) ∧ w3.heap.size ≤ w4.heap.size) ∧ w4.heap.size ≤ w5.heap.size) := ⟨Z.out, b.size⟩
  have QX := hid (QX.out.below b)
  have B : Hid (Below w.heap.size w w5) := B.out.trans (b.mono B.out.size)
  clear b
  go_wp2_with fail
  refine (toJobS_any _ xs0 _ (HR0.out.below B.out) hxl0).mono ?_
  rintro e w6 ⟨v0_6, rfl, o, b⟩
  replace OW := hid (OW.out.below b)
  replace X0 := hid (X0.out.below b)
  replace OG := hid (OG.out.below b)
  have Z : Hid (((((((w.heap.size ≤ w.heap.size) ∧ (w.heap.size ≤ loOW ∧ loOW ≤ w1.heap.size)) ∧ w1.heap.size ≤ w2.heap.size) ∧ w2.heap.size ≤ w3.heap.size) ∧ w3.heap.size ≤ w4.heap.size) ∧ w4.heap.size ≤ w5.heap.size) ∧ w5.heap.size ≤ w6.heap.size) := ⟨Z.out, b.size⟩
  have QX := hid (QX.out.below b)
  have B : Hid (Below w.heap.size w w6) := B.out.trans (b.mono B.out.size)
  clear b
  have A0 := hid o
  clear o
  go_wp2_with fail
  refine (eqJobS_same _ _ xs0 _ X0.out.reads A0.out.reads).mono ?_
  rintro e w7 ⟨rfl, b⟩
  replace OW := hid (OW.out.below b)
  replace X0 := hid (X0.out.below b)
  replace OG := hid (OG.out.below b)
  replace A0 := hid (A0.out.below b)
  have Z : Hid ((((((((w.heap.size ≤ w.heap.size) ∧ (w.heap.size ≤ loOW ∧ loOW ≤ w1.heap.size)) ∧ w1.heap.size ≤ w2.heap.size) ∧ w2.heap.size ≤ w3.heap.size) ∧ w3.heap.size ≤ w4.heap.size) ∧ w4.heap.size ≤ w5.heap.size) ∧ w5.heap.size ≤ w6.heap.size) ∧ w6.heap.size ≤ w7.heap.size) := ⟨Z.out, b.size⟩
  have QX := hid (QX.out.below b)
  have B : Hid (Below w.heap.size w w7) := B.out.trans (b.mono B.out.size)
  clear b
  clear A0
  obtain ⟨k0, hm, k0_0, k0_1⟩ : ∃ m : Int, m = 1 + (3 * xs0.length : Nat) ∧ 0 ≤ m ∧ m ≤ 10000000 := ⟨_, rfl, by omega, by omega⟩
  have HM_k0 := hid hm
  clear hm
  go_wp2_with fail
  refine (markJobS_any _ _ _ xs0 _ k0 _ X0.out hxl0 (by omega) (by omega) HM_k0.out).mono ?_
  rintro e w8 ⟨rfl, o, b, on⟩
  have OW := hid (OW.out.only on (by have := Z.out; omega))
  have OG := hid (OG.out.only on (by have := Z.out; omega))
  have X0 := hid o
  have Z : Hid (((((((((w.heap.size ≤ w.heap.size) ∧ (w.heap.size ≤ loOW ∧ loOW ≤ w1.heap.size)) ∧ w1.heap.size ≤ w2.heap.size) ∧ w2.heap.size ≤ w3.heap.size) ∧ w3.heap.size ≤ w4.heap.size) ∧ w4.heap.size ≤ w5.heap.size) ∧ w5.heap.size ≤ w6.heap.size) ∧ w6.heap.size ≤ w7.heap.size) ∧ w7.heap.size ≤ w8.heap.size) := ⟨Z.out, b.size⟩
  have QX := hid (QX.out.on b (by have := ZX.out; have := Z.out; omega))
  have B : Hid (Below w.heap.size w w8) := B.out.trans (b.mono (by have := Z.out; omega))
  clear b o on
  go_wp2_with fail
  refine (eqJobS_same _ _ ys0 _ OG.out.reads OW.out.reads).mono ?_
  rintro e w9 ⟨rfl, b⟩
  replace OW := hid (OW.out.below b)
  replace X0 := hid (X0.out.below b)
  replace OG := hid (OG.out.below b)
  have Z : Hid ((((((((((w.heap.size ≤ w.heap.size) ∧ (w.heap.size ≤ loOW ∧ loOW ≤ w1.heap.size)) ∧ w1.heap.size ≤ w2.heap.size) ∧ w2.heap.size ≤ w3.heap.size) ∧ w3.heap.size ≤ w4.heap.size) ∧ w4.heap.size ≤ w5.heap.size) ∧ w5.heap.size ≤ w6.heap.size) ∧ w6.heap.size ≤ w7.heap.size) ∧ w7.heap.size ≤ w8.heap.size) ∧ w8.heap.size ≤ w9.heap.size) := ⟨Z.out, b.size⟩
  have QX := hid (QX.out.below b)
  have B : Hid (Below w.heap.size w w9) := B.out.trans (b.mono B.out.size)
  clear b
  clear X0
  obtain ⟨m0, hm, m0_0, m0_1⟩ : ∃ m : Int, m = 1 + (3 * ys0.length : Nat) ∧ 0 ≤ m ∧ m ≤ 10000000 := ⟨_, rfl, by omega, by omega⟩
  have HM_m0 := hid hm
  clear hm
  go_wp2_with fail
  refine (markJobS_any _ _ _ ys0 _ m0 _ OG.out hy0 (by omega) (by omega) HM_m0.out).mono ?_
  rintro e w10 ⟨rfl, o, b, on⟩
  have OW := hid (OW.out.only on (by have := Z.out; omega))
  have OG := hid o
  have Z : Hid (((((((((((w.heap.size ≤ w.heap.size) ∧ (w.heap.size ≤ loOW ∧ loOW ≤ w1.heap.size)) ∧ w1.heap.size ≤ w2.heap.size) ∧ w2.heap.size ≤ w3.heap.size) ∧ w3.heap.size ≤ w4.heap.size) ∧ w4.heap.size ≤ w5.heap.size) ∧ w5.heap.size ≤ w6.heap.size) ∧ w6.heap.size ≤ w7.heap.size) ∧ w7.heap.size ≤ w8.heap.size) ∧ w8.heap.size ≤ w9.heap.size) ∧ w9.heap.size ≤ w10.heap.size) := ⟨Z.out, b.size⟩
  have QX := hid (QX.out.on b (by have := ZX.out; have := Z.out; omega))
  have B : Hid (Below w.heap.size w w10) := B.out.trans (b.mono (by have := Z.out; omega))
  clear b o on
  go_wp2_with fail
  refine (heldJobS_any _ ys0.length _ m0 _ OG.out.reads hy0 (by omega) (by omega) HM_m0.out).mono ?_
  rintro e w' ⟨rfl, hw⟩; obtain rfl := hw.symm
  have hL : Hid (∀ wa wb, Below wa.heap.size wa wb → (fun w' => JbOwn loOW w1.heap.size w' ow_1 ys0 ∧ JbOwn w3.heap.size w4.heap.size w' og_4 (jbmarks 1 ys0.length)) wa → (fun w' => JbOwn loOW w1.heap.size w' ow_1 ys0 ∧ JbOwn w3.heap.size w4.heap.size w' og_4 (jbmarks 1 ys0.length)) wb) := fun _ _ hb h => ⟨h.1.below hb, h.2.below hb⟩
  have qX : FnExactAdmitJob_X w x1 (w10.heap.size) (fun w' => JbOwn loOW w1.heap.size w' ow_1 ys0 ∧ JbOwn w3.heap.size w4.heap.size w' og_4 (jbmarks 1 ys0.length)) w10 := ⟨QX.out, Nat.le_refl _, ⟨OW.out, OG.out⟩⟩
  have qX := qX.below hL.out ((Below.refl _ _).drew)
  have q0 := qX.1.1
  have q1 := qX.1.2.1
  have q2 := qX.1.2.2.1
  go_wp2_with fail
  go_region_held3 (fun w' => w'.cell? ⟨w.heap.size, 0, none⟩ = some (.int .i64 x1.1) ∧ w'.cell? ⟨w.heap.size, 1, none⟩ = some (.int .i64 x1.2.1) ∧ w'.cell? ⟨w.heap.size, 2, none⟩ = some (.int .i64 x1.2.2) ∧ FnExactAdmitJob_X w x1 (w10.heap.size) (fun w' => JbOwn loOW w1.heap.size w' ow_1 ys0 ∧ JbOwn w3.heap.size w4.heap.size w' og_4 (jbmarks 1 ys0.length)) w') (first | (refine ⟨?_, ?_, ?_, ?_⟩ <;> assumption) | exact ⟨q0, q1, q2, qX⟩)
    (first
      | (go_at_call 6; refine (toJobS_any _ xs0 _ (HR0.out.below (FnExactAdmitJob_X.old (by first | assumption | exact (by assumption : _ ∧ _ ∧ _ ∧ FnExactAdmitJob_X w x1 (w10.heap.size) (fun w' => JbOwn loOW w1.heap.size w' ow_1 ys0 ∧ JbOwn w3.heap.size w4.heap.size w' og_4 (jbmarks 1 ys0.length)) _).2.2.2))) hxl0).mono ?_; rintro e wt ⟨v0, rfl, o0, b⟩; have qX := FnExactAdmitJob_X.below (by first | assumption | exact (by assumption : _ ∧ _ ∧ _ ∧ FnExactAdmitJob_X w x1 (w10.heap.size) (fun w' => JbOwn loOW w1.heap.size w' ow_1 ys0 ∧ JbOwn w3.heap.size w4.heap.size w' og_4 (jbmarks 1 ys0.length)) _).2.2.2) hL.out b; have q0 := qX.1.1; have q1 := qX.1.2.1; have q2 := qX.1.2.2.1; clear b)
      | (go_at_call 7; refine (toJob_any _ _ _ _).mono ?_; rintro e wt ⟨rfl, b⟩; have qX := FnExactAdmitJob_X.below (by first | assumption | exact (by assumption : _ ∧ _ ∧ _ ∧ FnExactAdmitJob_X w x1 (w10.heap.size) (fun w' => JbOwn loOW w1.heap.size w' ow_1 ys0 ∧ JbOwn w3.heap.size w4.heap.size w' og_4 (jbmarks 1 ys0.length)) _).2.2.2) hL.out b; have q0 := qX.1.1; have q1 := qX.1.2.1; have q2 := qX.1.2.2.1; try have o0 := JbOwn.below o0 b; clear b)
      | (go_at_call 8; refine (HI'.out _ _ (JbOwn.reads o0)).mono ?_; have z0 := (FnExactAdmitJob_X.sz (by first | assumption | exact (by assumption : _ ∧ _ ∧ _ ∧ FnExactAdmitJob_X w x1 (w10.heap.size) (fun w' => JbOwn loOW w1.heap.size w' ow_1 ys0 ∧ JbOwn w3.heap.size w4.heap.size w' og_4 (jbmarks 1 ys0.length)) _).2.2.2)); rintro e w11 ⟨oh_11, rfl, o, b⟩; have z1 := b.size; have qX := FnExactAdmitJob_X.below (by first | assumption | exact (by assumption : _ ∧ _ ∧ _ ∧ FnExactAdmitJob_X w x1 (w10.heap.size) (fun w' => JbOwn loOW w1.heap.size w' ow_1 ys0 ∧ JbOwn w3.heap.size w4.heap.size w' og_4 (jbmarks 1 ys0.length)) _).2.2.2) hL.out b; have q0 := qX.1.1; have q1 := qX.1.2.1; have q2 := qX.1.2.2.1; clear b))
  have QX := hid qX.1
  have OW := hid qX.2.2.1
  have OG := hid qX.2.2.2
  obtain ⟨loOH, hlo, O0⟩ : ∃ lo, (w10.heap.size ≤ lo ∧ lo ≤ w11.heap.size) ∧ JbOwn lo w11.heap.size w11 oh_11 ys0 := ⟨_, ⟨z0, z1⟩, o⟩
  have OH := hid O0
  have Z : Hid ((((((((((((w.heap.size ≤ w.heap.size) ∧ (w.heap.size ≤ loOW ∧ loOW ≤ w1.heap.size)) ∧ w1.heap.size ≤ w2.heap.size) ∧ w2.heap.size ≤ w3.heap.size) ∧ w3.heap.size ≤ w4.heap.size) ∧ w4.heap.size ≤ w5.heap.size) ∧ w5.heap.size ≤ w6.heap.size) ∧ w6.heap.size ≤ w7.heap.size) ∧ w7.heap.size ≤ w8.heap.size) ∧ w8.heap.size ≤ w9.heap.size) ∧ w9.heap.size ≤ w10.heap.size) ∧ (w10.heap.size ≤ loOH ∧ loOH ≤ w11.heap.size)) := ⟨Z.out, hlo⟩
  clear qX hL q0 q1 q2 o O0 hlo z0 z1 o0
  have B := hid QX.out.old
  go_wp2_with fail
  refine (eqJobS_same _ _ ys0 _ OH.out.reads OW.out.reads).mono ?_
  rintro e w12 ⟨rfl, b⟩
  replace OW := hid (OW.out.below b)
  replace OG := hid (OG.out.below b)
  replace OH := hid (OH.out.below b)
  have Z : Hid (((((((((((((w.heap.size ≤ w.heap.size) ∧ (w.heap.size ≤ loOW ∧ loOW ≤ w1.heap.size)) ∧ w1.heap.size ≤ w2.heap.size) ∧ w2.heap.size ≤ w3.heap.size) ∧ w3.heap.size ≤ w4.heap.size) ∧ w4.heap.size ≤ w5.heap.size) ∧ w5.heap.size ≤ w6.heap.size) ∧ w6.heap.size ≤ w7.heap.size) ∧ w7.heap.size ≤ w8.heap.size) ∧ w8.heap.size ≤ w9.heap.size) ∧ w9.heap.size ≤ w10.heap.size) ∧ (w10.heap.size ≤ loOH ∧ loOH ≤ w11.heap.size)) ∧ w11.heap.size ≤ w12.heap.size) := ⟨Z.out, b.size⟩
  have QX := hid (QX.out.below b)
  have B : Hid (Below w.heap.size w w12) := B.out.trans (b.mono B.out.size)
  clear b
  go_wp2_with fail
  refine (heldJobS_any _ ys0.length _ m0 _ OG.out.reads hy0 (by omega) (by omega) HM_m0.out).mono ?_
  rintro e w' ⟨rfl, hw⟩; obtain rfl := hw.symm
  go_wp2
  go_ret
  exact ⟨rfl, B.out⟩
end Go.Proofs.Ytobkockikpgcoaw
