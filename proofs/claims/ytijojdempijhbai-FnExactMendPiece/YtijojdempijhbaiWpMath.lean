/-
  Pieces with their parity behind: plain words.
-/
import Derived.Test.YtijojdempijhbaiPiMath
namespace Go.Proofs.Ytijojdempijhbai

def wpB (xs : List XEl) : Bool := goodP xs && decide (xs.length ≠ 8)
def wpL (xs : List XEl) : List XEl := if wpB xs then xs ++ [parT xs] else []
theorem wpL_len (xs : List XEl) : (wpL xs).length ≤ 1048576 := by
  unfold wpL
  cases h : wpB xs
  · simp
  · simp only [if_true, List.length_append, List.length_singleton]
    unfold wpB at h
    rw [Bool.and_eq_true] at h
    obtain ⟨_, _, _, _, h4, _⟩ := goodP_parts h.1
    omega
end Go.Proofs.Ytijojdempijhbai
