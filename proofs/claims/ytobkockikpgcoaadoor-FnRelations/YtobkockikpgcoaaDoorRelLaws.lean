/-
  What the law FnRelations asks of the thirteen ways: they run from 1 to 13, the other way round stands the counterpart, and two spans meet nowhere in just four of them. Plain arithmetic, no program.
-/
import Derived.Test.YtobkockikpgcoaaDoorRelMath
namespace Go.Proofs.YtobkockikpgcoaaDoor

def otherWay (r : Int) : Int := if r = 3 then 3 else if r < 3 then r + 7 else if r < 8 then r + 6 else if r < 10 then r - 7 else r - 6
def apartB (r : Int) : Bool := decide (r = 1) || decide (r = 2) || decide (r = 8) || decide (r = 9)
theorem ways_row {a b : Sp} (ha : a.1 < a.2) (hb : b.1 < b.2) : ∃ k : Nat, k < 13 ∧ rowAt a b k ∧ ways a b = (k : Int) + 1 := by
  obtain ⟨k, hk, h⟩ := some_row ha hb
  exact ⟨k, hk, h, row_ways ha hb k hk h⟩
theorem ways_bounds {a b : Sp} (ha : a.1 < a.2) (hb : b.1 < b.2) : 1 ≤ ways a b ∧ ways a b ≤ 13 := by
  obtain ⟨k, hk, _, e⟩ := ways_row ha hb
  omega
set_option maxHeartbeats 4000000 in
theorem ways_other {a b : Sp} (ha : a.1 < a.2) (hb : b.1 < b.2) : ways b a = otherWay (ways a b) := by
  obtain ⟨a1, a2⟩ := a
  obtain ⟨b1, b2⟩ := b
  simp only at ha hb
  obtain ⟨k, hk, ⟨h1, h2, h3, h4⟩, e⟩ := ways_row (a := (a1, a2)) (b := (b1, b2)) ha hb
  rw [e]
  clear e
  unfold ways way otherWay
  simp only at h1 h2 h3 h4 ⊢
  rcases (by omega : k = 0 ∨ k = 1 ∨ k = 2 ∨ k = 3 ∨ k = 4 ∨ k = 5 ∨ k = 6 ∨ k = 7 ∨ k = 8 ∨ k = 9 ∨ k = 10 ∨ k = 11 ∨ k = 12) with rfl | rfl | rfl | rfl | rfl | rfl | rfl | rfl | rfl | rfl | rfl | rfl | rfl
  all_goals
    simp only [signRows, List.getD_eq_getElem?_getD, Nat.zero_mul, Nat.one_mul, Nat.zero_add, Nat.reduceMul, Nat.reduceAdd, List.getElem?_cons_zero, List.getElem?_cons_succ, Option.getD_some, sg_m, sg_z, sg_p] at h1 h2 h3 h4
    simp (disch := omega) only [if_pos, if_neg]
    first | omega | (split <;> omega) | skip
theorem apart_meet {a b : Sp} (ha : a.1 < a.2) (hb : b.1 < b.2) : decide ((meetL [a] [b]).length = 0) = apartB (ways a b) := by
  obtain ⟨a1, a2⟩ := a
  obtain ⟨b1, b2⟩ := b
  simp only at ha hb
  obtain ⟨k, hk, ⟨h1, h2, h3, h4⟩, e⟩ := ways_row (a := (a1, a2)) (b := (b1, b2)) ha hb
  rw [e]
  clear e
  have hm : (meetL [(a1, a2)] [(b1, b2)]).length = 0 ↔ (a2 ≤ b1 ∨ b2 ≤ a1) := by
    simp only [meetL, meetOne, List.append_nil]
    repeat' split
    all_goals simp <;> omega
  rw [Bool.eq_iff_iff, decide_eq_true_eq, hm]
  unfold apartB
  simp only [Bool.or_eq_true, decide_eq_true_eq]
  rcases (by omega : k = 0 ∨ k = 1 ∨ k = 2 ∨ k = 3 ∨ k = 4 ∨ k = 5 ∨ k = 6 ∨ k = 7 ∨ k = 8 ∨ k = 9 ∨ k = 10 ∨ k = 11 ∨ k = 12) with rfl | rfl | rfl | rfl | rfl | rfl | rfl | rfl | rfl | rfl | rfl | rfl | rfl
  all_goals
    simp only [signRows, List.getD_eq_getElem?_getD, Nat.zero_mul, Nat.one_mul, Nat.zero_add, Nat.reduceMul, Nat.reduceAdd, List.getElem?_cons_zero, List.getElem?_cons_succ, Option.getD_some, sg_m, sg_z, sg_p] at h1 h2 h3 h4
    omega
end Go.Proofs.YtobkockikpgcoaaDoor
