/-
  Work as three numbers: which are as the document says, which is less, when a list is a heap. Plain arithmetic, no program.
-/
import Derived.Test.YtndbdioignmaeaaKWorkRows
namespace Go.Proofs.Ytndbdioignmaeaa

def in6 (n : Int) : Bool := decide (0 ≤ n) && decide (n ≤ 1000000)
def wkB (x : WkEl) : Bool := in6 x.1 && (in6 x.2.1 && in6 x.2.2)
def lessB (a b : WkEl) : Bool := if a.1 = b.1 then (if a.2.1 = b.2.1 then decide (a.2.2 < b.2.2) else decide (a.2.1 < b.2.1)) else decide (a.1 < b.1)
def goodW (l : List WkEl) : Bool := l.all wkB && decide (l.length ≤ 40)
/-- The one at k is not less than the one at half of k - 1. -/
def okW (l : List WkEl) (k : Nat) : Bool := !lessB (l.getD k (0, 0, 0)) (l.getD ((k - 1) / 2) (0, 0, 0))
def heapB (l : List WkEl) : Bool := (List.range l.length).all fun k => k == 0 || okW l k
theorem goodW_len {l : List WkEl} (h : goodW l = true) : l.length ≤ 40 := by
  unfold goodW at h
  rw [Bool.and_eq_true] at h
  simpa using h.2
theorem goodW_at {l : List WkEl} (h : goodW l = true) (k : Nat) (hk : k < l.length) : wkB (l.getD k (0, 0, 0)) = true := by
  unfold goodW at h
  rw [Bool.and_eq_true, List.all_eq_true] at h
  exact h.1 _ (by simp [List.getD_eq_getElem?_getD, hk])
theorem all_take (l : List WkEl) (k : Nat) (hk : k < l.length) : (l.take (k + 1)).all wkB = ((l.take k).all wkB && wkB (l.getD k (0, 0, 0))) := by
  rw [List.take_succ_eq_append_getElem hk, List.all_append]
  simp [List.getD_eq_getElem?_getD, hk]
theorem all_false {l : List WkEl} (k : Nat) (hk : k < l.length) (h : wkB (l.getD k (0, 0, 0)) = false) : l.all wkB = false := by
  rw [← Bool.not_eq_true, List.all_eq_true]
  intro hh
  have := hh (l.getD k (0, 0, 0)) (by simp [List.getD_eq_getElem?_getD, hk])
  rw [h] at this
  cases this
theorem heapB_iff (l : List WkEl) : heapB l = true ↔ ∀ k, 0 < k → k < l.length → okW l k = true := by
  unfold heapB
  rw [List.all_eq_true]
  constructor
  · intro h k h0 hk
    have := h k (List.mem_range.2 hk)
    rw [Bool.or_eq_true] at this
    rcases this with h | h
    · simp at h; omega
    · exact h
  · intro h k hk
    rw [Bool.or_eq_true]
    by_cases h0 : k = 0
    · left; simp [h0]
    · exact .inr (h k (by omega) (List.mem_range.1 hk))
theorem heapB_no {l : List WkEl} {k : Nat} (h0 : 0 < k) (hk : k < l.length) (h : okW l k = false) : heapB l = false := by
  rw [← Bool.not_eq_true, heapB_iff]
  intro hh
  rw [hh k h0 hk] at h
  cases h
end Go.Proofs.Ytndbdioignmaeaa
