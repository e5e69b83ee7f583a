/-
  Flows and buckets as the program's lists have them: plain words.
-/
import Derived.Test.YtflhlinkolbbiaeFlowMath
namespace Go.Proofs.Ytflhlinkolbbiae

def rateB (r d : Int) : Bool := decide (1 ≤ r ∧ r ≤ 20) && decide (1 ≤ d ∧ d ≤ 60)
def flowB (xs : List Int) : Bool := decide (xs.length ≤ 40) && xs.all fun k => decide (0 ≤ k ∧ k ≤ 60)
/-- A list as a flow: nought behind its end. -/
def fl (xs : List Int) (t : Nat) : Int := xs.getD t 0
theorem flowB_len {xs : List Int} (h : flowB xs = true) : xs.length ≤ 40 := by
  unfold flowB at h
  rw [Bool.and_eq_true, decide_eq_true_eq] at h
  exact h.1
theorem flowB_in {xs : List Int} (h : flowB xs = true) (t : Nat) : 0 ≤ fl xs t ∧ fl xs t ≤ 60 := by
  unfold flowB at h
  rw [Bool.and_eq_true, List.all_eq_true] at h
  unfold fl
  by_cases ht : t < xs.length
  · have := h.2 (xs.getD t 0) (by rw [List.getD_eq_getElem?_getD, List.getElem?_eq_getElem ht]; exact List.getElem_mem _)
    rw [decide_eq_true_eq] at this
    exact this
  · rw [List.getD_eq_getElem?_getD, List.getElem?_eq_none (by omega)]
    decide
theorem rateB_in {r d : Int} (h : rateB r d = true) : (1 ≤ r ∧ r ≤ 20) ∧ (1 ≤ d ∧ d ≤ 60) := by
  unfold rateB at h
  rw [Bool.and_eq_true, decide_eq_true_eq, decide_eq_true_eq] at h
  exact h
/-- So many of what goes, and of what waits. -/
def goL (g : Nat → Int) (n : Nat) : List Int := (List.range n).map g
theorem goL_len (g : Nat → Int) (n : Nat) : (goL g n).length = n := by simp [goL]
theorem goL_succ (g : Nat → Int) (n : Nat) : goL g (n + 1) = goL g n ++ [g n] := by simp [goL, List.range_succ]
theorem goL_get {g : Nat → Int} {n i : Nat} (h : i < n) : (goL g n).getD i 0 = g i := by simp [goL, List.getD_eq_getElem?_getD, h]
theorem psum_in {f : Nat → Int} {b : Int} (h : ∀ i, 0 ≤ f i ∧ f i ≤ b) : ∀ n : Nat, 0 ≤ psum f n ∧ psum f n ≤ b * n
  | 0 => by simp [psum]
  | n + 1 => by
    have h1 := psum_in h n
    have h2 := h n
    simp only [psum]
    rw [show ((n + 1 : Nat) : Int) = (n : Int) + 1 by omega, Int.mul_add, Int.mul_one]
    omega
end Go.Proofs.Ytflhlinkolbbiae
