/-
  The law FnExactHasHello answers true at every argument, where both sides tell alike.
-/
import Derived.Test.YtgdclnejlhfhlanKHelloArg
import Derived.Test.YtgdclnejlhfhlanKHelloEq
import Derived.Test.YtgdclnejlhfhlanKHelloSz
import Derived.Test.YtgdclnejlhfhlanKHelloTo
import Derived.Test.YtgdclnejlhfhlanKHelloToS
import Derived.Deep.RegionHeld3
namespace Go.Proofs.Ytgdclnejlhfhlan
open Go.RowKit

/-- What was handed in lies as it was laid; nothing old is written. -/
def FnExactHasHello_B (w : World) (x1 : HeEl) (w' : World) : Prop := w'.cell? ⟨w.heap.size, 0, none⟩ = some (.int .i64 x1.1) ∧ w'.cell? ⟨w.heap.size, 1, none⟩ = some (.int .i64 x1.2.1) ∧ w'.cell? ⟨w.heap.size, 2, none⟩ = some (.int .i64 x1.2.2) ∧ Below w.heap.size w w' ∧ w.heap.size + 1 ≤ w'.heap.size
theorem FnExactHasHello_B.on {w wa wb : World} {x1 : HeEl} {B : Nat} (h : FnExactHasHello_B w x1 wa) (hb : Below B wa wb) (hB : w.heap.size + 1 ≤ B) : FnExactHasHello_B w x1 wb :=
  ⟨(hb.cell (p := ⟨w.heap.size, 0, none⟩) (by simp; omega)).trans h.1, (hb.cell (p := ⟨w.heap.size, 1, none⟩) (by simp; omega)).trans h.2.1, (hb.cell (p := ⟨w.heap.size, 2, none⟩) (by simp; omega)).trans h.2.2.1, h.2.2.2.1.trans (hb.mono (by omega)), Nat.le_trans h.2.2.2.2 hb.size⟩
theorem FnExactHasHello_B.below {w wa wb : World} {x1 : HeEl} (h : FnExactHasHello_B w x1 wa) (hb : Below wa.heap.size wa wb) : FnExactHasHello_B w x1 wb := h.on hb h.2.2.2.2
theorem FnExactHasHello_B.old {w wa : World} {x1 : HeEl} (h : FnExactHasHello_B w x1 wa) : Below w.heap.size w wa := h.2.2.2.1

def FnExactHasHello_X (w : World) (x1 : HeEl) (n0 : Nat) (L : World → Prop) (w' : World) : Prop := FnExactHasHello_B w x1 w' ∧ n0 ≤ w'.heap.size ∧ L w'
theorem FnExactHasHello_X.below {w wa wb : World} {x1 : HeEl} {n0 : Nat} {L : World → Prop} (h : FnExactHasHello_X w x1 n0 L wa) (hL : ∀ wa wb, Below wa.heap.size wa wb → L wa → L wb) (hb : Below wa.heap.size wa wb) : FnExactHasHello_X w x1 n0 L wb := ⟨h.1.below hb, Nat.le_trans h.2.1 hb.size, hL _ _ hb h.2.2⟩
theorem FnExactHasHello_X.old {w wa : World} {x1 : HeEl} {n0 : Nat} {L : World → Prop} (h : FnExactHasHello_X w x1 n0 L wa) : Below w.heap.size w wa := h.1.old
theorem FnExactHasHello_X.sz {w wa : World} {x1 : HeEl} {n0 : Nat} {L : World → Prop} (h : FnExactHasHello_X w x1 n0 L wa) : n0 ≤ wa.heap.size := h.2.1

set_option maxHeartbeats 8000000 in
theorem FnExactHasHello_law (a0 : Option Addr) (len0 cap0 : Nat) (xs0 : List HeEl) (x1 : HeEl) (w : World) (hrow0 : HeArg w a0 len0 cap0 xs0) (r0 : Bool) (r1 : Bool)
    (HS : ∀ (v0 : Value) (w : World), HeReads w v0 xs0 → Calls Try.prog 33 #[v0, (.agg #[.int .i64 x1.1, .int .i64 x1.2.1, .int .i64 x1.2.2])] w fun e w' => e = .returned (.tuple #[.bool r0, .bool r1]) ∧ Below w.heap.size w w')
    (HI : ∀ (v0 : Value) (w : World), HeReads w v0 xs0 → Calls Try.prog 36 #[v0, (.agg #[.int .i64 x1.1, .int .i64 x1.2.1, .int .i64 x1.2.2])] w fun e w' => e = .returned (.tuple #[.bool r0, .bool r1]) ∧ Below w.heap.size w w') :
    Calls Try.prog 8 #[.slice a0 len0 cap0, (.agg #[.int .i64 x1.1, .int .i64 x1.2.1, .int .i64 x1.2.2])] w fun e w' => e = .returned (.bool true) ∧ Below w.heap.size w w' := by
  have HS' := hid HS
  have HI' := hid HI
  clear HS HI
  by_cases hl0 : (len0 : Int) ≤ 1048576
  rotate_left
  · have hm : len0 ≤ maxLen := Nat.le_trans hrow0.2.1 hrow0.2.2.1
    clear HS' HI' hrow0
    go_enter Try.func8, Try.ntmps8
    go_wp2_with fail
    refine (szHelloS_over _ a0 len0 cap0 _ (by omega) (by omega) (by omega) hm).mono ?_
    rintro e w' ⟨rfl, hw⟩; obtain rfl := hw.symm
    go_wp2
    go_ret
    refine ⟨rfl, ?_⟩
    first | exact Below.refl _ _ | go_grown
  have HR0 := hid (hrow0.reads (by omega))
  have hxl0 : xs0.length ≤ 1048576 := by rw [hrow0.1]; omega
  clear hrow0
  go_enter Try.func8, Try.ntmps8
  go_wp2_with fail
  refine (szHelloS_at _ a0 len0 cap0 _ (by omega) (by omega) (by omega)).mono ?_
  rintro e w' ⟨rfl, hw⟩; obtain rfl := hw.symm
  have hd0 : decide (1048576 - (len0 : Int) < 0) = false := by simp; omega
  have Z : Hid (w.heap.size ≤ w.heap.size) := Nat.le_refl _
  have hL : Hid (∀ wa wb, Below wa.heap.size wa wb → (fun _ => True) wa → (fun _ => True) wb) := fun _ _ hb h => trivial
  go_wp2_with fail
  go_region_held3 (fun w' => w'.cell? ⟨w.heap.size, 0, none⟩ = some (.int .i64 x1.1) ∧ w'.cell? ⟨w.heap.size, 1, none⟩ = some (.int .i64 x1.2.1) ∧ w'.cell? ⟨w.heap.size, 2, none⟩ = some (.int .i64 x1.2.2) ∧ FnExactHasHello_X w x1 (w.heap.size) (fun _ => True) w') (first | (refine ⟨?_, ?_, ?_, ?_⟩ <;> assumption) | (refine ⟨by simp, by simp, by simp, ⟨⟨by simp, by simp, by simp, by go_grown, by simp <;> omega⟩, by simp <;> omega, trivial⟩⟩))
    (first
      | (go_at_call 34; refine (toHelloS_any _ xs0 _ (HR0.out.below (FnExactHasHello_X.old (by first | assumption | exact (by assumption : _ ∧ _ ∧ _ ∧ FnExactHasHello_X w x1 (w.heap.size) (fun _ => True) _).2.2.2))) hxl0).mono ?_; rintro e wt ⟨v0, rfl, o0, b⟩; have qX := FnExactHasHello_X.below (by first | assumption | exact (by assumption : _ ∧ _ ∧ _ ∧ FnExactHasHello_X w x1 (w.heap.size) (fun _ => True) _).2.2.2) hL.out b; have q0 := qX.1.1; have q1 := qX.1.2.1; have q2 := qX.1.2.2.1; clear b)
      | (go_at_call 35; refine (toHello_any _ _ _ _).mono ?_; rintro e wt ⟨rfl, b⟩; have qX := FnExactHasHello_X.below (by first | assumption | exact (by assumption : _ ∧ _ ∧ _ ∧ FnExactHasHello_X w x1 (w.heap.size) (fun _ => True) _).2.2.2) hL.out b; have q0 := qX.1.1; have q1 := qX.1.2.1; have q2 := qX.1.2.2.1; try have o0 := HeOwn.below o0 b; clear b)
      | (go_at_call 33; refine (HS'.out _ _ (HeOwn.reads o0)).mono ?_; have z0 := (FnExactHasHello_X.sz (by first | assumption | exact (by assumption : _ ∧ _ ∧ _ ∧ FnExactHasHello_X w x1 (w.heap.size) (fun _ => True) _).2.2.2)); rintro e w1 ⟨rfl, b⟩; have z1 := b.size; have qX := FnExactHasHello_X.below (by first | assumption | exact (by assumption : _ ∧ _ ∧ _ ∧ FnExactHasHello_X w x1 (w.heap.size) (fun _ => True) _).2.2.2) hL.out b; have q0 := qX.1.1; have q1 := qX.1.2.1; have q2 := qX.1.2.2.1; clear b))
  have QX := hid qX.1
  clear qX hL q0 q1 q2 z0 z1 o0
  have B := hid QX.out.old
  have ZX : Hid (w.heap.size + 1 ≤ w1.heap.size) := QX.out.2.2.2.2
  go_wp2_with fail
  refine (toHelloS_any _ xs0 _ (HR0.out.below B.out) hxl0).mono ?_
  rintro e w2 ⟨v0_2, rfl, o, b⟩
  have Z : Hid ((w.heap.size ≤ w.heap.size) ∧ w1.heap.size ≤ w2.heap.size) := ⟨Z.out, b.size⟩
  have QX := hid (QX.out.below b)
  have B : Hid (Below w.heap.size w w2) := B.out.trans (b.mono B.out.size)
  clear b
  have X0 := hid o
  clear o
  have c0 := QX.out.1
  have c1 := QX.out.2.1
  have c2 := QX.out.2.2.1
  go_wp2_with fail
  refine (toHello_any _ _ _ _).mono ?_
  rintro e w3 ⟨rfl, b⟩
  replace X0 := hid (X0.out.below b)
  have Z : Hid (((w.heap.size ≤ w.heap.size) ∧ w1.heap.size ≤ w2.heap.size) ∧ w2.heap.size ≤ w3.heap.size) := ⟨Z.out, b.size⟩
  have QX := hid (QX.out.below b)
  have B : Hid (Below w.heap.size w w3) := B.out.trans (b.mono B.out.size)
  clear b
  clear c0 c1 c2
  go_wp2_with fail
  refine (HI'.out v0_2 _ X0.out.reads).mono ?_
  rintro e w4 ⟨rfl, b⟩
  replace X0 := hid (X0.out.below b)
  have Z : Hid ((((w.heap.size ≤ w.heap.size) ∧ w1.heap.size ≤ w2.heap.size) ∧ w2.heap.size ≤ w3.heap.size) ∧ w3.heap.size ≤ w4.heap.size) := ⟨Z.out, b.size⟩
  have QX := hid (QX.out.below b)
  have B : Hid (Below w.heap.size w w4) := B.out.trans (b.mono B.out.size)
  clear b
  go_wp2_with fail
  refine (toHelloS_any _ xs0 _ (HR0.out.below B.out) hxl0).mono ?_
  rintro e w5 ⟨v0_5, rfl, o, b⟩
  replace X0 := hid (X0.out.below b)
  have Z : Hid (((((w.heap.size ≤ w.heap.size) ∧ w1.heap.size ≤ w2.heap.size) ∧ w2.heap.size ≤ w3.heap.size) ∧ w3.heap.size ≤ w4.heap.size) ∧ w4.heap.size ≤ w5.heap.size) := ⟨Z.out, b.size⟩
  have QX := hid (QX.out.below b)
  have B : Hid (Below w.heap.size w w5) := B.out.trans (b.mono B.out.size)
  clear b
  have A0 := hid o
  clear o
  go_wp2_with fail
  refine (eqHelloS_same _ _ xs0 _ X0.out.reads A0.out.reads).mono ?_
  rintro e w6 ⟨rfl, b⟩
  replace X0 := hid (X0.out.below b)
  replace A0 := hid (A0.out.below b)
  have Z : Hid ((((((w.heap.size ≤ w.heap.size) ∧ w1.heap.size ≤ w2.heap.size) ∧ w2.heap.size ≤ w3.heap.size) ∧ w3.heap.size ≤ w4.heap.size) ∧ w4.heap.size ≤ w5.heap.size) ∧ w5.heap.size ≤ w6.heap.size) := ⟨Z.out, b.size⟩
  have QX := hid (QX.out.below b)
  have B : Hid (Below w.heap.size w w6) := B.out.trans (b.mono B.out.size)
  clear b
  clear A0
  go_wp2
  go_ret
  exact ⟨rfl, B.out⟩
end Go.Proofs.Ytgdclnejlhfhlan
