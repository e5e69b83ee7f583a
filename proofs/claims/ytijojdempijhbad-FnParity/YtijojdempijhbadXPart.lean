/-
  Parts of a row of texts. Plain facts on the memory.
-/
import Derived.Test.YtijojdempijhbadXRows
namespace Go.Proofs.Ytijojdempijhbad
open Go.RowKit

theorem xreads_take {w : World} {a : Option Addr} {n cap k : Nat} {xs : List XEl} (h : XReads w (.slice a n cap) xs) (hk : k ≤ xs.length) : XReads w (.slice a k cap) (xs.take k) := by
  obtain ⟨a', c', e, hl, hx⟩ := h
  cases e
  refine ⟨a, cap, by rw [List.length_take, Nat.min_eq_left hk], by rw [List.length_take, Nat.min_eq_left hk]; omega, ?_⟩
  rcases hx with hx | ⟨b, off, rfl, hc⟩
  · left; subst hx; simp
  · refine .inr ⟨b, off, rfl, fun i hi => ?_⟩
    rw [List.length_take, Nat.min_eq_left hk] at hi
    have := hc i (by omega)
    have e2 : (xs.take k).getD i xz = xs.getD i xz := by rw [List.getD_eq_getElem?_getD, List.getElem?_take, if_pos hi, ← List.getD_eq_getElem?_getD]
    rw [e2]
    exact this
theorem xreads_drop {w : World} {b off n cap k : Nat} {xs : List XEl} (h : XReads w (.slice (some ⟨b, off, none⟩) n cap) xs) (hk : k ≤ xs.length) : XReads w (.slice (some ⟨b, off + k, none⟩) (xs.length - k) (cap - k)) (xs.drop k) := by
  obtain ⟨a', c', e, hl, hx⟩ := h
  cases e
  refine ⟨_, _, by rw [List.length_drop], by rw [List.length_drop]; omega, ?_⟩
  rcases hx with hx | ⟨b', off', e, hc⟩
  · left; subst hx; simp
  · cases e
    refine .inr ⟨b, off + k, rfl, fun i hi => ?_⟩
    rw [List.length_drop] at hi
    have := hc (k + i) (by omega)
    have e2 : (xs.drop k).getD i xz = xs.getD (k + i) xz := by rw [List.getD_eq_getElem?_getD, List.getElem?_drop, ← List.getD_eq_getElem?_getD]
    rw [e2, Nat.add_assoc]
    exact this
theorem xreads_none (w : World) (a : Option Addr) (cap k : Nat) (xs : List XEl) (h : xs.length ≤ k) : XReads w (.slice a (xs.length - k) cap) (xs.drop k) := by
  rw [List.drop_of_length_le h, Nat.sub_eq_zero_of_le h]
  exact xreads_nil _ _ _
end Go.Proofs.Ytijojdempijhbad
