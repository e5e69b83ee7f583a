/-
  Going up and down in a list, by how often at most. Plain functions, no program.
-/
import Derived.Test.YtndbdioignmaeaaWkMath
namespace Go.Proofs.Ytndbdioignmaeaa

abbrev wz : WkEl := (0, 0, 0)
def swapL (l : List WkEl) (i j : Nat) : List WkEl := (l.set i (l.getD j wz)).set j (l.getD i wz)
theorem length_swapL (l : List WkEl) (i j : Nat) : (swapL l i j).length = l.length := by simp [swapL]
def upL : Nat → List WkEl → Nat → List WkEl × Nat
  | 0, l, k => (l, k)
  | f + 1, l, k => if 0 < k ∧ lessB (l.getD k wz) (l.getD ((k - 1) / 2) wz) = true then upL f (swapL l k ((k - 1) / 2)) ((k - 1) / 2) else (l, k)
theorem upL_stop (f : Nat) (l : List WkEl) (k : Nat) (h : ¬ (0 < k ∧ lessB (l.getD k wz) (l.getD ((k - 1) / 2) wz) = true)) : upL f l k = (l, k) := by
  cases f with
  | zero => rfl
  | succ f => rw [upL, if_neg h]
theorem upL_go (f : Nat) (l : List WkEl) (k : Nat) (hf : k ≤ f) (h0 : 0 < k) (h : lessB (l.getD k wz) (l.getD ((k - 1) / 2) wz) = true) : ∃ f', (k - 1) / 2 ≤ f' ∧ upL f l k = upL f' (swapL l k ((k - 1) / 2)) ((k - 1) / 2) := by
  cases f with
  | zero => omega
  | succ f => exact ⟨f, by omega, by rw [upL, if_pos ⟨h0, h⟩]⟩
/-- The lesser of what stands at k and of those below it. -/
def best1 (l : List WkEl) (k : Nat) : Nat := if 2 * k + 1 < l.length ∧ lessB (l.getD (2 * k + 1) wz) (l.getD k wz) = true then 2 * k + 1 else k
def bestOf (l : List WkEl) (k : Nat) : Nat := if 2 * k + 2 < l.length ∧ lessB (l.getD (2 * k + 2) wz) (l.getD (best1 l k) wz) = true then 2 * k + 2 else best1 l k
def downL : Nat → List WkEl → Nat → Nat → List WkEl × Nat
  | 0, l, _, n => (l, n)
  | f + 1, l, k, n => if bestOf l k = k then (l, n) else downL f (swapL l k (bestOf l k)) (bestOf l k) (n + 1)
theorem best1_cases (l : List WkEl) (k : Nat) : best1 l k = k ∨ (k < best1 l k ∧ best1 l k < l.length) := by
  unfold best1
  split
  · right; omega
  · left; rfl
theorem bestOf_cases (l : List WkEl) (k : Nat) : bestOf l k = k ∨ (k < bestOf l k ∧ bestOf l k < l.length) := by
  unfold bestOf
  split
  · right; omega
  · exact best1_cases l k
theorem downL_stop (f : Nat) (l : List WkEl) (k n : Nat) (h : bestOf l k = k) : downL f l k n = (l, n) := by
  cases f with
  | zero => rfl
  | succ f => rw [downL, if_pos h]
theorem downL_go (f : Nat) (l : List WkEl) (k n : Nat) (hf : l.length - k ≤ f) (hk : k < l.length) (h : bestOf l k ≠ k) : ∃ f', (swapL l k (bestOf l k)).length - bestOf l k ≤ f' ∧ downL f l k n = downL f' (swapL l k (bestOf l k)) (bestOf l k) (n + 1) := by
  cases f with
  | zero => omega
  | succ f =>
    have := bestOf_cases l k
    exact ⟨f, by rw [length_swapL]; omega, by rw [downL, if_neg h]⟩
theorem downL_len (f : Nat) (l : List WkEl) (k n : Nat) : (downL f l k n).1.length = l.length := by
  induction f generalizing l k n with
  | zero => rfl
  | succ f ih =>
    rw [downL]
    split
    · rfl
    · rw [ih, length_swapL]
theorem downL_many (f : Nat) (l : List WkEl) (k n : Nat) (hk : k < l.length) : (downL f l k n).2 ≤ n + (l.length - 1 - k) := by
  induction f generalizing l k n with
  | zero => rw [downL]; omega
  | succ f ih =>
    rw [downL]
    split
    · simp
    · have hb := bestOf_cases l k
      have := ih (swapL l k (bestOf l k)) (bestOf l k) (n + 1) (by rw [length_swapL]; omega)
      rw [length_swapL] at this
      omega
theorem upL_len (f : Nat) (l : List WkEl) (k : Nat) : (upL f l k).1.length = l.length := by
  induction f generalizing l k with
  | zero => rfl
  | succ f ih =>
    rw [upL]
    split
    · rw [ih, length_swapL]
    · rfl
/-- Down from j - 1, .., 0, and how many steps. -/
def makeF : Nat → List WkEl → Nat → List WkEl × Nat
  | 0, l, n => (l, n)
  | j + 1, l, n => makeF j (downL l.length l j 0).1 (n + (downL l.length l j 0).2)
def makeL (l : List WkEl) : List WkEl × Nat := makeF (l.length / 2) l 0
theorem makeF_len (j : Nat) (l : List WkEl) (n : Nat) : (makeF j l n).1.length = l.length := by
  induction j generalizing l n with
  | zero => rfl
  | succ j ih => rw [makeF, ih, downL_len]
end Go.Proofs.Ytndbdioignmaeaa
