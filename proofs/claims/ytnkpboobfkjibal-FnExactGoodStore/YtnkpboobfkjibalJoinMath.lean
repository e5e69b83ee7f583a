/-
  A span put into others, by how many lie ahead and how many are reached. Plain arithmetic, no program.
-/
import Derived.Test.YtnkpboobfkjibalReaching
namespace Go.Proofs.Ytnkpboobfkjibal

theorem chain_lt {p : Int} {l : List Sp} (h : chainB p l = true) : ∀ z ∈ l, p < z.1 ∧ z.1 < z.2 := by
  induction l generalizing p with
  | nil => simp
  | cons y l ih =>
    rw [chain_cons, spB_iff] at h
    intro z hz
    rcases List.mem_cons.1 hz with rfl | hz
    · omega
    · have := ih h.2.2 z hz
      omega
def fronts (l : List Sp) (t : Int) : Nat := (l.takeWhile fun y => decide (y.1 ≤ t)).length
theorem fronts_cons (y : Sp) (l : List Sp) (t : Int) : fronts (y :: l) t = if y.1 ≤ t then fronts l t + 1 else 0 := by
  unfold fronts
  rw [List.takeWhile_cons]
  by_cases h : y.1 ≤ t <;> simp [h]
theorem fronts_le (l : List Sp) (t : Int) : fronts l t ≤ l.length := by
  unfold fronts
  exact (List.takeWhile_sublist _).length_le
theorem fronts_max {p : Int} {l : List Sp} (h : chainB p l = true) (t q : Int) (hq : q ≤ p) : fronts l (max t q) = fronts l t := by
  unfold fronts
  congr 1
  induction l with
  | nil => rfl
  | cons y l ih =>
    have hy := chain_lt h y (by simp)
    rw [chain_cons] at h
    rw [List.takeWhile_cons, List.takeWhile_cons, ih (chain_mono h.2.2 (by have := (spB_iff y).1 h.2.1; omega))]
    rw [show decide (y.1 ≤ max t q) = decide (y.1 ≤ t) by rw [decide_eq_decide]; omega]
theorem chain_getD {p : Int} {l : List Sp} (h : chainB p l = true) (i : Nat) (hi : i < l.length) : p < (l.getD i (0, 0)).1 ∧ (l.getD i (0, 0)).1 < (l.getD i (0, 0)).2 :=
  chain_lt h _ (by simp [List.getD_eq_getElem?_getD, hi])

theorem addM_eq {p : Int} {l : List Sp} {x : Sp} (h : chainB p l = true) :
    addM l x = if fronts l x.2 = 0 then x :: l else (min x.1 (l.getD 0 (0, 0)).1, max x.2 (l.getD (fronts l x.2 - 1) (0, 0)).2) :: l.drop (fronts l x.2) := by
  induction l generalizing x p with
  | nil => simp [addM, fronts]
  | cons y l ih =>
    rw [chain_cons, spB_iff] at h
    rw [fronts_cons]
    simp only [addM]
    split
    · rename_i hy
      rw [if_neg (by omega), ih h.2.2]
      simp only
      rw [fronts_max h.2.2 x.2 y.2 (Int.le_refl _)]
      by_cases h0 : fronts l x.2 = 0
      · rw [if_pos h0, h0]
        simp
      · rw [if_neg h0]
        have hfl := fronts_le l x.2
        have g0 := chain_getD h.2.2 0 (by omega)
        have g1 := chain_getD h.2.2 (fronts l x.2 - 1) (by omega)
        rw [List.drop_succ_cons, show fronts l x.2 + 1 - 1 = (fronts l x.2 - 1) + 1 by omega]
        simp only [List.getD_cons_succ, List.getD_cons_zero]
        congr 1
        rw [Prod.mk.injEq]
        constructor <;> omega
    · rw [if_pos rfl]

theorem ahead_cons (y : Sp) (l : List Sp) (f : Int) : ahead (y :: l) f = if y.2 < f then ahead l f + 1 else 0 := by
  unfold ahead
  rw [List.takeWhile_cons]
  by_cases h : y.2 < f <;> simp [h]
theorem ahead_le (l : List Sp) (f : Int) : ahead l f ≤ l.length := by
  unfold ahead
  exact (List.takeWhile_sublist _).length_le
theorem upto_fronts (xs : List Sp) (k : Nat) (t : Int) : upto xs k t = k + fronts (xs.drop k) t := rfl
theorem upto_le (xs : List Sp) (k : Nat) (t : Int) (hk : k ≤ xs.length) : upto xs k t ≤ xs.length := by
  have := fronts_le (xs.drop k) t
  rw [List.length_drop] at this
  rw [upto_fronts]
  omega

/-- What is put in the place of those that are reached. -/
def grownTo (xs : List Sp) (x : Sp) : Sp := if ahead xs x.1 < upto xs (ahead xs x.1) x.2 then (min x.1 (xs.getD (ahead xs x.1) (0, 0)).1, max x.2 (xs.getD (upto xs (ahead xs x.1) x.2 - 1) (0, 0)).2) else x
theorem joined_math {p : Int} {xs : List Sp} {x : Sp} (h : chainB p xs = true) : xs.take (ahead xs x.1) ++ [grownTo xs x] ++ xs.drop (upto xs (ahead xs x.1) x.2) = addL xs x := by
  induction xs generalizing p with
  | nil => simp [addL, grownTo, ahead, upto]
  | cons y l ih =>
    have hc := h
    rw [chain_cons] at h
    simp only [addL]
    by_cases hy : y.2 < x.1
    · rw [if_pos hy, ← ih h.2.2]
      have e1 : ahead (y :: l) x.1 = ahead l x.1 + 1 := by rw [ahead_cons, if_pos hy]
      have e2 : upto (y :: l) (ahead (y :: l) x.1) x.2 = upto l (ahead l x.1) x.2 + 1 := by rw [upto_fronts, upto_fronts, e1, List.drop_succ_cons]; omega
      have e3 : grownTo (y :: l) x = grownTo l x := by
        unfold grownTo
        rw [e2, e1]
        by_cases hlt : ahead l x.1 < upto l (ahead l x.1) x.2
        · rw [if_pos (by omega), if_pos hlt, show upto l (ahead l x.1) x.2 + 1 - 1 = (upto l (ahead l x.1) x.2 - 1) + 1 by omega]
          simp only [List.getD_cons_succ]
        · rw [if_neg (by omega), if_neg hlt]
      rw [e3, e2, e1]
      simp
    · rw [if_neg hy, addM_eq hc]
      have e1 : ahead (y :: l) x.1 = 0 := by rw [ahead_cons, if_neg hy]
      have e2 : upto (y :: l) 0 x.2 = fronts (y :: l) x.2 := by rw [upto_fronts]; simp
      unfold grownTo
      rw [e1, e2]
      by_cases h0 : fronts (y :: l) x.2 = 0
      · rw [if_neg (by omega), if_pos h0, h0]
        simp
      · rw [if_pos (by omega), if_neg h0]
        simp
end Go.Proofs.Ytnkpboobfkjibal
