/-
  A point in spans, by the first so many. Plain arithmetic.
-/
import Derived.Test.YthmkeinhjlmgmahSpanMath
namespace Go.Proofs.Ythmkeinhjlmgmah

theorem has_take_succ (xs : List Sp) (k : Nat) (n : Int) (h : k < xs.length) : hasL (xs.take (k + 1)) n = (hasL (xs.take k) n || inB (xs.getD k (0, 0)) n) := by
  rw [List.take_succ_eq_append_getElem h, has_append]
  simp [List.getD_eq_getElem?_getD, h, hasL]
theorem has_of_at (xs : List Sp) (k : Nat) (n : Int) (h : k < xs.length) (hi : inB (xs.getD k (0, 0)) n = true) : hasL xs n = true := by
  have e : xs = xs.take k ++ xs.drop k := (List.take_append_drop k xs).symm
  rw [e, has_append, List.drop_eq_getElem_cons h]
  simp only [List.getD_eq_getElem?_getD, List.getElem?_eq_getElem h, Option.getD_some] at hi
  simp [hasL, hi]

end Go.Proofs.Ythmkeinhjlmgmah
