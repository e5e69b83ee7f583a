/-
  The numbers of tasks sorted by insertion, place by place: plain arithmetic.
-/
import Derived.Test.YtflhlinkolbbiaeByMath
namespace Go.Proofs.Ytflhlinkolbbiae
open Go.RowKit

theorem getD_app_at {A R : List Nat} {x : Nat} {j : Nat} (h : A.length = j) : (A ++ x :: R).getD j 0 = x := by
  subst h
  simp [List.getD_eq_getElem?_getD]
theorem getD_app_lt {A R : List Nat} {j : Nat} (h : j < A.length) : (A ++ R).getD j 0 = A.getD j 0 := by
  simp [List.getD_eq_getElem?_getD, List.getElem?_append_left h]
theorem take_snoc {P : List Nat} {j : Nat} (h0 : 0 < j) (hj : j ≤ P.length) : P.take j = P.take (j - 1) ++ [P.getD (j - 1) 0] := by
  have h : j - 1 < P.length := by omega
  have e : j = (j - 1) + 1 := by omega
  conv => lhs; rw [e]
  rw [List.take_succ_eq_append_getElem h]
  simp [List.getD_eq_getElem?_getD, h]
theorem drop_cons {P : List Nat} {j : Nat} (h0 : 0 < j) (hj : j ≤ P.length) : P.drop (j - 1) = P.getD (j - 1) 0 :: P.drop j := by
  have h : j - 1 < P.length := by omega
  rw [List.drop_eq_getElem_cons h, show j - 1 + 1 = j by omega]
  simp [List.getD_eq_getElem?_getD, h]
/-- Inside a round of the sort: the number i has come to place j. -/
def inL (e : Nat → Int) (n i j : Nat) : List Nat := (byEnd e i).take j ++ i :: ((byEnd e i).drop j ++ List.range' (i + 1) (n - (i + 1)))
/-- Ahead of a round. -/
def outL (e : Nat → Int) (n i : Nat) : List Nat := byEnd e i ++ List.range' i (n - i)
theorem outL_one (e : Nat → Int) {n i : Nat} (h : i < n) : outL e n i = inL e n i i := by
  have hl := byEnd_len e i
  unfold outL inL
  rw [List.take_of_length_le (by omega), List.drop_eq_nil_of_le (by omega), List.nil_append]
  congr 1
  rw [show n - i = (n - (i + 1)) + 1 by omega, List.range'_succ]
theorem outL_start (e : Nat → Int) {n : Nat} (h : 0 < n) : outL e n 1 = List.range n := by
  unfold outL
  have e1 : byEnd e 1 = [0] := by simp [byEnd, insE, placeE]
  rw [e1, List.range_eq_range', show n = (n - 1) + 1 by omega, List.range'_succ]
  simp
theorem outL_end (e : Nat → Int) (n : Nat) : outL e n n = byEnd e n := by simp [outL]
theorem inL_len (e : Nat → Int) {n i j : Nat} (hj : j ≤ i) (hi : i < n) : (inL e n i j).length = n := by
  have hl := byEnd_len e i
  simp only [inL, List.length_append, List.length_take, List.length_cons, List.length_drop, List.length_range']
  omega
theorem inL_at (e : Nat → Int) {n i j : Nat} (hj : j ≤ i) : (inL e n i j).getD j 0 = i := by
  have hl := byEnd_len e i
  exact getD_app_at (by rw [List.length_take]; omega)
theorem inL_prev (e : Nat → Int) {n i j : Nat} (h0 : 0 < j) (hj : j ≤ i) : (inL e n i j).getD (j - 1) 0 = (byEnd e i).getD (j - 1) 0 := by
  have hl := byEnd_len e i
  unfold inL
  rw [getD_app_lt (by rw [List.length_take]; omega)]
  simp [List.getD_eq_getElem?_getD, show j - 1 < j by omega]
theorem inL_swap (e : Nat → Int) {n i j : Nat} (h0 : 0 < j) (hj : j ≤ i) : ((inL e n i j).set j ((byEnd e i).getD (j - 1) 0)).set (j - 1) i = inL e n i (j - 1) := by
  have hl := byEnd_len e i
  unfold inL
  rw [take_snoc h0 (by omega), drop_cons h0 (by omega)]
  have hA : ((byEnd e i).take (j - 1)).length = j - 1 := by rw [List.length_take]; omega
  generalize (byEnd e i).take (j - 1) = A at hA ⊢
  generalize (byEnd e i).getD (j - 1) 0 = a
  rw [List.append_assoc, List.singleton_append, List.cons_append]
  generalize (byEnd e i).drop j ++ List.range' (i + 1) (n - (i + 1)) = R
  rw [List.set_append_right _ _ (by omega), hA, show j - (j - 1) = 1 by omega]
  rw [List.set_append_right _ _ (by omega), hA, Nat.sub_self]
  rfl
theorem ends_le (e : Nat → Int) (i : Nat) {a b : Nat} (h : a < b) (hb : b < i) : e ((byEnd e i).getD a 0) ≤ e ((byEnd e i).getD b 0) := by
  have hl := byEnd_len e i
  have := List.pairwise_iff_getElem.1 (byEnd_ends e i) a b (by omega) (by omega) h
  simpa [List.getD_eq_getElem?_getD, show a < (byEnd e i).length by omega, show b < (byEnd e i).length by omega] using this
theorem inL_done (e : Nat → Int) {n i j : Nat} (hj : j ≤ i) (hgt : j < i → e i < e ((byEnd e i).getD j 0)) (hle : 0 < j → e ((byEnd e i).getD (j - 1) 0) ≤ e i) : inL e n i j = outL e n (i + 1) := by
  have hl := byEnd_len e i
  have hp : placeE e (e i) (byEnd e i) = j := by
    refine placeE_eq (by omega) (fun k hk => ?_) (fun h => hgt (by omega))
    by_cases hk' : k = j - 1
    · rw [hk']; exact hle (by omega)
    · have := ends_le e i (show k < j - 1 by omega) (by omega)
      have := hle (by omega)
      omega
  have hb : byEnd e (i + 1) = insE e (byEnd e i) i := rfl
  unfold outL inL
  rw [hb]
  unfold insE
  rw [hp, List.append_assoc, List.cons_append]
theorem inL_lt (e : Nat → Int) {n i : Nat} (hi : i < n) : ∀ k, k < i → (byEnd e i).getD k 0 < n := by
  intro k hk
  have hl := byEnd_len e i
  have := byEnd_lt e i (k := (byEnd e i).getD k 0) (by rw [List.getD_eq_getElem?_getD, List.getElem?_eq_getElem (by omega)]; exact List.getElem_mem _)
  omega
end Go.Proofs.Ytflhlinkolbbiae
