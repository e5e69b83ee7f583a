/-
  Many guesses one behind the other: which lists are as said. Plain arithmetic.
-/
import Derived.Test.YteeaebelknpdjbbGuFns
namespace Go.Proofs.Yteeaebelknpdjbb

def seeAllB (f : Int) (xs : List SnEl) : Bool := newB f && (decide (xs.length ≤ 60) && allS xs)
theorem allS_step (xs : List SnEl) (k : Nat) (hk : k < xs.length) : allS (xs.take (k + 1)) = (allS (xs.take k) && okS (xs.getD k (0, false, false))) := by
  unfold allS
  rw [List.take_succ_eq_append_getElem hk, List.all_append]
  simp [List.getD_eq_getElem?_getD, hk]
theorem allS_false {xs : List SnEl} (k : Nat) (hk : k < xs.length) (h : okS (xs.getD k (0, false, false)) = false) : allS xs = false := by
  unfold allS
  rw [← Bool.not_eq_true, List.all_eq_true]
  intro hh
  have := hh (xs.getD k (0, false, false)) (by simp [List.getD_eq_getElem?_getD, hk])
  rw [h] at this
  cases this
end Go.Proofs.Yteeaebelknpdjbb
