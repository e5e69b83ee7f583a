/-
  Numbers that rise below a bound, spans that end below one: plain words.
-/
import Derived.Test.YtnkpboobfkjibakFlowFns
import Derived.Test.YtnkpboobfkjibakSpanMath
namespace Go.Proofs.Ytnkpboobfkjibak

/-- Letters that rise, all below many: the first k. -/
def risU (l : List Int) (many : Int) : Nat → Bool
  | 0 => true
  | k + 1 => risU l many k && (decide (0 ≤ fl l k ∧ fl l k ≤ many - 1) && (decide (k = 0) || decide (fl l (k - 1) < fl l k)))
def risB (l : List Int) (many : Int) : Bool := risU l many l.length
theorem risU_no {l : List Int} {many : Int} {k : Nat} (h : risU l many k = false) : ∀ j, k ≤ j → risU l many j = false
  | 0, hj => by obtain rfl : k = 0 := by omega
                exact h
  | j + 1, hj => by
    by_cases e : k = j + 1
    · rw [← e]; exact h
    · simp only [risU]; rw [risU_no h j (by omega)]; rfl
def lastTo (l : List Sp) : Int := (l.getD (l.length - 1) (0, 0)).2
def belB (l : List Sp) (many : Int) : Bool := goodL l && (decide (l.length = 0) || decide (lastTo l ≤ many))
end Go.Proofs.Ytnkpboobfkjibak
