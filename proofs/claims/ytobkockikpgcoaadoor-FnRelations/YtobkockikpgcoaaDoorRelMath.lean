/-
  The thirteen ways in which two spans stand, as the document tells them, and by signs. Plain arithmetic, no program.
-/
import Derived.Test.YtobkockikpgcoaaDoorSpanMath
namespace Go.Proofs.YtobkockikpgcoaaDoor

/-- The first seven ways; 0 for none of these. -/
def way (a b : Sp) : Int :=
  if a.2 < b.1 then 1 else if a.2 = b.1 then 2 else
  if a.1 = b.1 then (if a.2 = b.2 then 3 else if a.2 < b.2 then 4 else 0) else
  if b.1 < a.1 then (if a.2 = b.2 then 5 else if a.2 < b.2 then 6 else 0) else
  if a.2 < b.2 then 7 else 0
def ways (a b : Sp) : Int := if 0 < way a b then way a b else if way b a < 3 then 7 + way b a else 6 + way b a
def sg (x y : Int) : Int := if x < y then -1 else if y < x then 1 else 0
/-- The rows of signs, one behind the other. -/
def signRows : List Int := [-1, -1, -1, -1, -1, -1, 0, -1, 0, -1, 1, 0, 0, -1, 1, -1, 1, -1, 1, 0, 1, -1, 1, -1, -1, -1, 1, -1, 1, 1, 1, 1, 1, 0, 1, 1, 0, -1, 1, 1, -1, -1, 1, 0, -1, -1, 1, 1, 1, -1, 1, 1]
/-- Row k is that of a and b. -/
def rowAt (a b : Sp) (k : Nat) : Prop := signRows.getD (k * 4) 0 = sg a.1 b.1 ∧ signRows.getD (k * 4 + 1) 0 = sg a.1 b.2 ∧ signRows.getD (k * 4 + 2) 0 = sg a.2 b.1 ∧ signRows.getD (k * 4 + 3) 0 = sg a.2 b.2

theorem way_bounds (a b : Sp) : 0 ≤ way a b ∧ way a b ≤ 7 := by
  unfold way
  repeat' split
  all_goals omega
theorem sg_cases (x y : Int) : (x < y ∧ sg x y = -1) ∨ (x = y ∧ sg x y = 0) ∨ (y < x ∧ sg x y = 1) := by
  unfold sg
  repeat' split
  all_goals omega
theorem sg_m (x y : Int) : -1 = sg x y ↔ x < y := by have := sg_cases x y; omega
theorem sg_z (x y : Int) : 0 = sg x y ↔ x = y := by have := sg_cases x y; omega
theorem sg_p (x y : Int) : 1 = sg x y ↔ y < x := by have := sg_cases x y; omega
set_option maxHeartbeats 4000000 in
theorem row_ways {a b : Sp} (ha : a.1 < a.2) (hb : b.1 < b.2) (k : Nat) (hk : k < 13) (h : rowAt a b k) : ways a b = (k : Int) + 1 := by
  obtain ⟨a1, a2⟩ := a
  obtain ⟨b1, b2⟩ := b
  simp only at ha hb
  obtain ⟨h1, h2, h3, h4⟩ := h
  unfold ways way
  simp only at h1 h2 h3 h4 ⊢
  rcases (by omega : k = 0 ∨ k = 1 ∨ k = 2 ∨ k = 3 ∨ k = 4 ∨ k = 5 ∨ k = 6 ∨ k = 7 ∨ k = 8 ∨ k = 9 ∨ k = 10 ∨ k = 11 ∨ k = 12) with rfl | rfl | rfl | rfl | rfl | rfl | rfl | rfl | rfl | rfl | rfl | rfl | rfl
  all_goals
    simp only [signRows, List.getD_eq_getElem?_getD, Nat.zero_mul, Nat.one_mul, Nat.zero_add, Nat.reduceMul, Nat.reduceAdd, List.getElem?_cons_zero, List.getElem?_cons_succ, Option.getD_some, sg_m, sg_z, sg_p] at h1 h2 h3 h4
    simp (disch := omega) only [if_pos, if_neg]
    first | omega | (split <;> omega) | skip
theorem some_row {a b : Sp} (ha : a.1 < a.2) (hb : b.1 < b.2) : ∃ k, k < 13 ∧ rowAt a b k := by
  have s1 := sg_cases a.1 b.1
  have s2 := sg_cases a.1 b.2
  have s3 := sg_cases a.2 b.1
  have s4 := sg_cases a.2 b.2
  unfold rowAt
  rcases s1 with ⟨c1, e1⟩ | ⟨c1, e1⟩ | ⟨c1, e1⟩ <;> rcases s2 with ⟨c2, e2⟩ | ⟨c2, e2⟩ | ⟨c2, e2⟩ <;> rcases s3 with ⟨c3, e3⟩ | ⟨c3, e3⟩ | ⟨c3, e3⟩ <;> rcases s4 with ⟨c4, e4⟩ | ⟨c4, e4⟩ | ⟨c4, e4⟩ <;> (try omega) <;> rw [e1, e2, e3, e4] <;>
    first
    | exact ⟨0, by decide, by decide⟩ | exact ⟨1, by decide, by decide⟩ | exact ⟨2, by decide, by decide⟩ | exact ⟨3, by decide, by decide⟩ | exact ⟨4, by decide, by decide⟩ | exact ⟨5, by decide, by decide⟩ | exact ⟨6, by decide, by decide⟩
    | exact ⟨7, by decide, by decide⟩ | exact ⟨8, by decide, by decide⟩ | exact ⟨9, by decide, by decide⟩ | exact ⟨10, by decide, by decide⟩ | exact ⟨11, by decide, by decide⟩ | exact ⟨12, by decide, by decide⟩
end Go.Proofs.YtobkockikpgcoaaDoor
