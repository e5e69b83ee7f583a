/-
  The law FnExactRelationOf answers true at every two spans.
-/
import Derived.Test.YtkmdkfegpgkkmatDoorRelSpec
import Derived.Test.YtkmdkfegpgkkmatDoorRelImpl
import Derived.Test.YtkmdkfegpgkkmatDoorRelNo
import Derived.Test.YtkmdkfegpgkkmatDoorToSpan
namespace Go.Proofs.YtkmdkfegpgkkmatDoor
open Go.RowKit

/-- Both arguments lie as they were laid; nothing old is written. -/
def S6 (w : World) (p q r s : Int) (w' : World) : Prop := w'.cell? ⟨w.heap.size, 0, none⟩ = some (.int .i64 p) ∧ w'.cell? ⟨w.heap.size, 1, none⟩ = some (.int .i64 q) ∧ w'.cell? ⟨w.heap.size + 1, 0, none⟩ = some (.int .i64 r) ∧ w'.cell? ⟨w.heap.size + 1, 1, none⟩ = some (.int .i64 s) ∧ Below w.heap.size w w' ∧ w.heap.size + 2 ≤ w'.heap.size
theorem S6.below {w wa wb : World} {p q r s : Int} (h : S6 w p q r s wa) (hb : Below wa.heap.size wa wb) : S6 w p q r s wb := by
  obtain ⟨h0, h1, h2, h3, h4, h5⟩ := h
  exact ⟨(hb.cell (p := ⟨w.heap.size, 0, none⟩) (lt_of_cell h0)).trans h0, (hb.cell (p := ⟨w.heap.size, 1, none⟩) (lt_of_cell h1)).trans h1, (hb.cell (p := ⟨w.heap.size + 1, 0, none⟩) (lt_of_cell h2)).trans h2, (hb.cell (p := ⟨w.heap.size + 1, 1, none⟩) (lt_of_cell h3)).trans h3, h4.trans (hb.mono h4.size), Nat.le_trans h5 hb.size⟩

theorem S6.old {w wa : World} {p q r s : Int} (h : S6 w p q r s wa) : Below w.heap.size w wa := h.2.2.2.2.1
theorem S6.drew {w wa : World} {p q r s : Int} (h : S6 w p q r s wa) : S6 w p q r s wa.drew := h.below (Below.refl _ _).drew
set_option maxHeartbeats 1000000 in
theorem FnExactRelationOf_walk (p q r s : Int) (w : World) (hT : RTab w) :
    Calls Tryd.prog 3 #[.agg #[.int .i64 p, .int .i64 q], .agg #[.int .i64 r, .int .i64 s]] w fun e w' => e = .returned (.bool true) ∧ Below w.heap.size w w' := by
  have HT := hid hT
  clear hT
  cases hg : (spB (p, q) && spB (r, s)) with
  | false =>
    go_enter Tryd.func3, Tryd.ntmps3
    go_wp2_with fail
    go_region_held3 (fun w' => w'.cell? ⟨w.heap.size, 0, none⟩ = some (.int .i64 p) ∧ w'.cell? ⟨w.heap.size, 1, none⟩ = some (.int .i64 q) ∧ w'.cell? ⟨w.heap.size + 1, 0, none⟩ = some (.int .i64 r) ∧ w'.cell? ⟨w.heap.size + 1, 1, none⟩ = some (.int .i64 s) ∧ S6 w p q r s w') (first | (refine ⟨?_, ?_, ?_, ?_, ?_⟩ <;> assumption) | (refine ⟨by simp, by simp, by simp, by simp, ⟨by simp, by simp, by simp, by simp, by go_grown, by simp⟩⟩))
      (first
        | (go_at_call 5; refine (toSpan_any _ _ _).mono ?_; rintro e w' ⟨rfl, hb⟩; have qS := S6.below (by first | assumption | exact (by assumption : _ ∧ _ ∧ _ ∧ _ ∧ S6 w p q r s _).2.2.2.2) hb; have q0 := qS.1; have q1 := qS.2.1; have q2 := qS.2.2.1; have q3 := qS.2.2.2.1)
        | (go_at_call 4; refine (srel_no _ _ _ _ _ hg).mono ?_; rintro e w' ⟨rfl, hb⟩; have qS := S6.below (by first | assumption | exact (by assumption : _ ∧ _ ∧ _ ∧ _ ∧ S6 w p q r s _).2.2.2.2) hb; have q0 := qS.1; have q1 := qS.2.1; have q2 := qS.2.2.1; have q3 := qS.2.2.2.1))
    go_wp2_with fail
    go_region_held3 (fun w' => w'.cell? ⟨w.heap.size, 0, none⟩ = some (.int .i64 p) ∧ w'.cell? ⟨w.heap.size, 1, none⟩ = some (.int .i64 q) ∧ w'.cell? ⟨w.heap.size + 1, 0, none⟩ = some (.int .i64 r) ∧ w'.cell? ⟨w.heap.size + 1, 1, none⟩ = some (.int .i64 s) ∧ S6 w p q r s w') (first | (refine ⟨?_, ?_, ?_, ?_, ?_⟩ <;> assumption) | exact ⟨q0, q1, q2, q3, S6.drew qS⟩)
      (first
        | (go_at_call 5; refine (toSpan_any _ _ _).mono ?_; rintro e w' ⟨rfl, hb⟩; have qS := S6.below (by first | assumption | exact (by assumption : _ ∧ _ ∧ _ ∧ _ ∧ S6 w p q r s _).2.2.2.2) hb; have q0 := qS.1; have q1 := qS.2.1; have q2 := qS.2.2.1; have q3 := qS.2.2.2.1)
        | (go_at_call 6; refine (irel_no _ _ _ _ _ hg).mono ?_; rintro e w' ⟨rfl, hb⟩; have qS := S6.below (by first | assumption | exact (by assumption : _ ∧ _ ∧ _ ∧ _ ∧ S6 w p q r s _).2.2.2.2) hb; have q0 := qS.1; have q1 := qS.2.1; have q2 := qS.2.2.1; have q3 := qS.2.2.2.1))
    have QS := hid qS
    clear qS q0 q1 q2 q3
    go_wp2
    go_ret
    exact ⟨rfl, QS.out.old⟩
  | true =>
    have ha : spB (p, q) = true := by rw [Bool.and_eq_true] at hg; exact hg.1
    have hb' : spB (r, s) = true := by rw [Bool.and_eq_true] at hg; exact hg.2
    go_enter Tryd.func3, Tryd.ntmps3
    go_wp2_with fail
    go_region_held3 (fun w' => w'.cell? ⟨w.heap.size, 0, none⟩ = some (.int .i64 p) ∧ w'.cell? ⟨w.heap.size, 1, none⟩ = some (.int .i64 q) ∧ w'.cell? ⟨w.heap.size + 1, 0, none⟩ = some (.int .i64 r) ∧ w'.cell? ⟨w.heap.size + 1, 1, none⟩ = some (.int .i64 s) ∧ S6 w p q r s w') (first | (refine ⟨?_, ?_, ?_, ?_, ?_⟩ <;> assumption) | (refine ⟨by simp, by simp, by simp, by simp, ⟨by simp, by simp, by simp, by simp, by go_grown, by simp⟩⟩))
      (first
        | (go_at_call 5; refine (toSpan_any _ _ _).mono ?_; rintro e w' ⟨rfl, hb⟩; have qS := S6.below (by first | assumption | exact (by assumption : _ ∧ _ ∧ _ ∧ _ ∧ S6 w p q r s _).2.2.2.2) hb; have q0 := qS.1; have q1 := qS.2.1; have q2 := qS.2.2.1; have q3 := qS.2.2.2.1)
        | (go_at_call 4; refine (srel_yes _ _ _ _ _ ha hb').mono ?_; rintro e w' ⟨rfl, hb⟩; have qS := S6.below (by first | assumption | exact (by assumption : _ ∧ _ ∧ _ ∧ _ ∧ S6 w p q r s _).2.2.2.2) hb; have q0 := qS.1; have q1 := qS.2.1; have q2 := qS.2.2.1; have q3 := qS.2.2.2.1))
    go_wp2_with fail
    go_region_held3 (fun w' => w'.cell? ⟨w.heap.size, 0, none⟩ = some (.int .i64 p) ∧ w'.cell? ⟨w.heap.size, 1, none⟩ = some (.int .i64 q) ∧ w'.cell? ⟨w.heap.size + 1, 0, none⟩ = some (.int .i64 r) ∧ w'.cell? ⟨w.heap.size + 1, 1, none⟩ = some (.int .i64 s) ∧ S6 w p q r s w') (first | (refine ⟨?_, ?_, ?_, ?_, ?_⟩ <;> assumption) | exact ⟨q0, q1, q2, q3, S6.drew qS⟩)
      (first
        | (go_at_call 5; refine (toSpan_any _ _ _).mono ?_; rintro e w' ⟨rfl, hb⟩; have qS := S6.below (by first | assumption | exact (by assumption : _ ∧ _ ∧ _ ∧ _ ∧ S6 w p q r s _).2.2.2.2) hb; have q0 := qS.1; have q1 := qS.2.1; have q2 := qS.2.2.1; have q3 := qS.2.2.2.1)
        | (go_at_call 6; refine (irel_yes _ _ _ _ _ (HT.out.below (S6.old (by first | assumption | exact (by assumption : _ ∧ _ ∧ _ ∧ _ ∧ S6 w p q r s _).2.2.2.2))) ha hb').mono ?_; rintro e w' ⟨rfl, hb⟩; have qS := S6.below (by first | assumption | exact (by assumption : _ ∧ _ ∧ _ ∧ _ ∧ S6 w p q r s _).2.2.2.2) hb; have q0 := qS.1; have q1 := qS.2.1; have q2 := qS.2.2.1; have q3 := qS.2.2.2.1))
    have QS := hid qS
    clear qS q0 q1 q2 q3
    go_wp2
    go_ret
    exact ⟨rfl, QS.out.old⟩
end Go.Proofs.YtkmdkfegpgkkmatDoor
