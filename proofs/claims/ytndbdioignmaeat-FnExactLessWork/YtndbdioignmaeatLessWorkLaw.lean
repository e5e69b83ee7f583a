/-
  The law FnExactLessWork answers true at every argument, where both sides tell alike.
-/
import Derived.Test.YtndbdioignmaeatKWorkArg
import Derived.Test.YtndbdioignmaeatKWorkTo
import Derived.Deep.RegionHeld3
namespace Go.Proofs.Ytndbdioignmaeat
open Go.RowKit

/-- What was handed in lies as it was laid; nothing old is written. -/
def FnExactLessWork_B (w : World) (x0 : WkEl) (x1 : WkEl) (w' : World) : Prop := w'.cell? ⟨w.heap.size, 0, none⟩ = some (.int .i64 x0.1) ∧ w'.cell? ⟨w.heap.size, 1, none⟩ = some (.int .i64 x0.2.1) ∧ w'.cell? ⟨w.heap.size, 2, none⟩ = some (.int .i64 x0.2.2) ∧ w'.cell? ⟨w.heap.size + 1, 0, none⟩ = some (.int .i64 x1.1) ∧ w'.cell? ⟨w.heap.size + 1, 1, none⟩ = some (.int .i64 x1.2.1) ∧ w'.cell? ⟨w.heap.size + 1, 2, none⟩ = some (.int .i64 x1.2.2) ∧ Below w.heap.size w w' ∧ w.heap.size + 2 ≤ w'.heap.size
theorem FnExactLessWork_B.on {w wa wb : World} {x0 : WkEl} {x1 : WkEl} {B : Nat} (h : FnExactLessWork_B w x0 x1 wa) (hb : Below B wa wb) (hB : w.heap.size + 2 ≤ B) : FnExactLessWork_B w x0 x1 wb :=
  ⟨(hb.cell (p := ⟨w.heap.size, 0, none⟩) (by simp; omega)).trans h.1, (hb.cell (p := ⟨w.heap.size, 1, none⟩) (by simp; omega)).trans h.2.1, (hb.cell (p := ⟨w.heap.size, 2, none⟩) (by simp; omega)).trans h.2.2.1, (hb.cell (p := ⟨w.heap.size + 1, 0, none⟩) (by simp; omega)).trans h.2.2.2.1, (hb.cell (p := ⟨w.heap.size + 1, 1, none⟩) (by simp; omega)).trans h.2.2.2.2.1, (hb.cell (p := ⟨w.heap.size + 1, 2, none⟩) (by simp; omega)).trans h.2.2.2.2.2.1, h.2.2.2.2.2.2.1.trans (hb.mono (by omega)), Nat.le_trans h.2.2.2.2.2.2.2 hb.size⟩
theorem FnExactLessWork_B.below {w wa wb : World} {x0 : WkEl} {x1 : WkEl} (h : FnExactLessWork_B w x0 x1 wa) (hb : Below wa.heap.size wa wb) : FnExactLessWork_B w x0 x1 wb := h.on hb h.2.2.2.2.2.2.2
theorem FnExactLessWork_B.old {w wa : World} {x0 : WkEl} {x1 : WkEl} (h : FnExactLessWork_B w x0 x1 wa) : Below w.heap.size w wa := h.2.2.2.2.2.2.1

def FnExactLessWork_X (w : World) (x0 : WkEl) (x1 : WkEl) (n0 : Nat) (L : World → Prop) (w' : World) : Prop := FnExactLessWork_B w x0 x1 w' ∧ n0 ≤ w'.heap.size ∧ L w'
theorem FnExactLessWork_X.below {w wa wb : World} {x0 : WkEl} {x1 : WkEl} {n0 : Nat} {L : World → Prop} (h : FnExactLessWork_X w x0 x1 n0 L wa) (hL : ∀ wa wb, Below wa.heap.size wa wb → L wa → L wb) (hb : Below wa.heap.size wa wb) : FnExactLessWork_X w x0 x1 n0 L wb := ⟨h.1.below hb, Nat.le_trans h.2.1 hb.size, hL _ _ hb h.2.2⟩
theorem FnExactLessWork_X.old {w wa : World} {x0 : WkEl} {x1 : WkEl} {n0 : Nat} {L : World → Prop} (h : FnExactLessWork_X w x0 x1 n0 L wa) : Below w.heap.size w wa := h.1.old
theorem FnExactLessWork_X.sz {w wa : World} {x0 : WkEl} {x1 : WkEl} {n0 : Nat} {L : World → Prop} (h : FnExactLessWork_X w x0 x1 n0 L wa) : n0 ≤ wa.heap.size := h.2.1

set_option maxHeartbeats 8000000 in
theorem FnExactLessWork_law (x0 : WkEl) (x1 : WkEl) (w : World) (r0 : Bool) (r1 : Bool)
    (HS : ∀ (w : World), Calls Try.prog 18 #[(.agg #[.int .i64 x0.1, .int .i64 x0.2.1, .int .i64 x0.2.2]), (.agg #[.int .i64 x1.1, .int .i64 x1.2.1, .int .i64 x1.2.2])] w fun e w' => e = .returned (.tuple #[.bool r0, .bool r1]) ∧ Below w.heap.size w w')
    (HI : ∀ (w : World), Calls Try.prog 20 #[(.agg #[.int .i64 x0.1, .int .i64 x0.2.1, .int .i64 x0.2.2]), (.agg #[.int .i64 x1.1, .int .i64 x1.2.1, .int .i64 x1.2.2])] w fun e w' => e = .returned (.tuple #[.bool r0, .bool r1]) ∧ Below w.heap.size w w') :
    Calls Try.prog 5 #[(.agg #[.int .i64 x0.1, .int .i64 x0.2.1, .int .i64 x0.2.2]), (.agg #[.int .i64 x1.1, .int .i64 x1.2.1, .int .i64 x1.2.2])] w fun e w' => e = .returned (.bool true) ∧ Below w.heap.size w w' := by
  have HS' := hid HS
  have HI' := hid HI
  clear HS HI
  go_enter Try.func5, Try.ntmps5
  have Z : Hid (w.heap.size ≤ w.heap.size) := Nat.le_refl _
  have hL : Hid (∀ wa wb, Below wa.heap.size wa wb → (fun _ => True) wa → (fun _ => True) wb) := fun _ _ hb h => trivial
  go_wp2_with fail
  go_region_held3 (fun w' => w'.cell? ⟨w.heap.size, 0, none⟩ = some (.int .i64 x0.1) ∧ w'.cell? ⟨w.heap.size, 1, none⟩ = some (.int .i64 x0.2.1) ∧ w'.cell? ⟨w.heap.size, 2, none⟩ = some (.int .i64 x0.2.2) ∧ w'.cell? ⟨w.heap.size + 1, 0, none⟩ = some (.int .i64 x1.1) ∧ w'.cell? ⟨w.heap.size + 1, 1, none⟩ = some (.int .i64 x1.2.1) ∧ w'.cell? ⟨w.heap.size + 1, 2, none⟩ = some (.int .i64 x1.2.2) ∧ FnExactLessWork_X w x0 x1 (w.heap.size) (fun _ => True) w') (first | (refine ⟨?_, ?_, ?_, ?_, ?_, ?_, ?_⟩ <;> assumption) | (refine ⟨by simp, by simp, by simp, by simp, by simp, by simp, ⟨⟨by simp, by simp, by simp, by simp, by simp, by simp, by go_grown, by simp <;> omega⟩, by simp <;> omega, trivial⟩⟩))
    (first
      | (go_at_call 19; refine (toWork_any _ _ _ _).mono ?_; rintro e wt ⟨rfl, b⟩; have qX := FnExactLessWork_X.below (by first | assumption | exact (by assumption : _ ∧ _ ∧ _ ∧ _ ∧ _ ∧ _ ∧ FnExactLessWork_X w x0 x1 (w.heap.size) (fun _ => True) _).2.2.2.2.2.2) hL.out b; have q0 := qX.1.1; have q1 := qX.1.2.1; have q2 := qX.1.2.2.1; have q3 := qX.1.2.2.2.1; have q4 := qX.1.2.2.2.2.1; have q5 := qX.1.2.2.2.2.2.1; clear b)
      | (go_at_call 18; refine (HS'.out  _ ).mono ?_; have z0 := (FnExactLessWork_X.sz (by first | assumption | exact (by assumption : _ ∧ _ ∧ _ ∧ _ ∧ _ ∧ _ ∧ FnExactLessWork_X w x0 x1 (w.heap.size) (fun _ => True) _).2.2.2.2.2.2)); rintro e w1 ⟨rfl, b⟩; have z1 := b.size; have qX := FnExactLessWork_X.below (by first | assumption | exact (by assumption : _ ∧ _ ∧ _ ∧ _ ∧ _ ∧ _ ∧ FnExactLessWork_X w x0 x1 (w.heap.size) (fun _ => True) _).2.2.2.2.2.2) hL.out b; have q0 := qX.1.1; have q1 := qX.1.2.1; have q2 := qX.1.2.2.1; have q3 := qX.1.2.2.2.1; have q4 := qX.1.2.2.2.2.1; have q5 := qX.1.2.2.2.2.2.1; clear b))
  have QX := hid qX.1
  clear qX hL q0 q1 q2 q3 q4 q5 z0 z1
  have B := hid QX.out.old
  have hL : Hid (∀ wa wb, Below wa.heap.size wa wb → (fun _ => True) wa → (fun _ => True) wb) := fun _ _ hb h => trivial
  have qX : FnExactLessWork_X w x0 x1 (w1.heap.size) (fun _ => True) w1 := ⟨QX.out, Nat.le_refl _, trivial⟩
  have qX := qX.below hL.out ((Below.refl _ _).drew)
  have q0 := qX.1.1
  have q1 := qX.1.2.1
  have q2 := qX.1.2.2.1
  have q3 := qX.1.2.2.2.1
  have q4 := qX.1.2.2.2.2.1
  have q5 := qX.1.2.2.2.2.2.1
  go_wp2_with fail
  go_region_held3 (fun w' => w'.cell? ⟨w.heap.size, 0, none⟩ = some (.int .i64 x0.1) ∧ w'.cell? ⟨w.heap.size, 1, none⟩ = some (.int .i64 x0.2.1) ∧ w'.cell? ⟨w.heap.size, 2, none⟩ = some (.int .i64 x0.2.2) ∧ w'.cell? ⟨w.heap.size + 1, 0, none⟩ = some (.int .i64 x1.1) ∧ w'.cell? ⟨w.heap.size + 1, 1, none⟩ = some (.int .i64 x1.2.1) ∧ w'.cell? ⟨w.heap.size + 1, 2, none⟩ = some (.int .i64 x1.2.2) ∧ FnExactLessWork_X w x0 x1 (w1.heap.size) (fun _ => True) w') (first | (refine ⟨?_, ?_, ?_, ?_, ?_, ?_, ?_⟩ <;> assumption) | exact ⟨q0, q1, q2, q3, q4, q5, qX⟩)
    (first
      | (go_at_call 19; refine (toWork_any _ _ _ _).mono ?_; rintro e wt ⟨rfl, b⟩; have qX := FnExactLessWork_X.below (by first | assumption | exact (by assumption : _ ∧ _ ∧ _ ∧ _ ∧ _ ∧ _ ∧ FnExactLessWork_X w x0 x1 (w1.heap.size) (fun _ => True) _).2.2.2.2.2.2) hL.out b; have q0 := qX.1.1; have q1 := qX.1.2.1; have q2 := qX.1.2.2.1; have q3 := qX.1.2.2.2.1; have q4 := qX.1.2.2.2.2.1; have q5 := qX.1.2.2.2.2.2.1; clear b)
      | (go_at_call 20; refine (HI'.out  _ ).mono ?_; have z0 := (FnExactLessWork_X.sz (by first | assumption | exact (by assumption : _ ∧ _ ∧ _ ∧ _ ∧ _ ∧ _ ∧ FnExactLessWork_X w x0 x1 (w1.heap.size) (fun _ => True) _).2.2.2.2.2.2)); rintro e w2 ⟨rfl, b⟩; have z1 := b.size; have qX := FnExactLessWork_X.below (by first | assumption | exact (by assumption : _ ∧ _ ∧ _ ∧ _ ∧ _ ∧ _ ∧ FnExactLessWork_X w x0 x1 (w1.heap.size) (fun _ => True) _).2.2.2.2.2.2) hL.out b; have q0 := qX.1.1; have q1 := qX.1.2.1; have q2 := qX.1.2.2.1; have q3 := qX.1.2.2.2.1; have q4 := qX.1.2.2.2.2.1; have q5 := qX.1.2.2.2.2.2.1; clear b))
  have QX := hid qX.1
  clear qX hL q0 q1 q2 q3 q4 q5 z0 z1
  have B := hid QX.out.old
  go_wp2
  go_ret
  exact ⟨rfl, B.out⟩
end Go.Proofs.Ytndbdioignmaeat
