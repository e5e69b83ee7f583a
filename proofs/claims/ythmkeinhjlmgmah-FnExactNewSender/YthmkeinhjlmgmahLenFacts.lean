/-
  Plain facts on good spans. No program.
-/
import Derived.Test.YthmkeinhjlmgmahSpanMath
namespace Go.Proofs.Ythmkeinhjlmgmah

theorem good_chain {xs : List Sp} (h : goodL xs = true) : chainB (-1) xs = true := by
  unfold goodL at h
  rw [Bool.and_eq_true] at h
  exact h.1
theorem good_len {xs : List Sp} (h : goodL xs = true) : xs.length ≤ 20 := by
  unfold goodL at h
  rw [Bool.and_eq_true] at h
  simpa using h.2
end Go.Proofs.Ythmkeinhjlmgmah
