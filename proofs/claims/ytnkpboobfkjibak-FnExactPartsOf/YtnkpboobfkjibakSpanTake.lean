/-
  The first of good spans. Plain arithmetic, no program.
-/
import Derived.Test.YtnkpboobfkjibakSpanMath
namespace Go.Proofs.Ytnkpboobfkjibak

theorem take_snoc' (xs : List Sp) (k : Nat) (hk : k < xs.length) : xs.take (k + 1) = xs.take k ++ [xs.getD k (0, 0)] := by
  rw [List.take_succ_eq_append_getElem hk]
  simp [List.getD_eq_getElem?_getD, hk]
theorem len_take_succ (xs : List Sp) (k : Nat) (h : k < xs.length) : lenL (xs.take (k + 1)) = lenL (xs.take k) + ((xs.getD k (0, 0)).2 - (xs.getD k (0, 0)).1) := by
  have ap : ∀ (l : List Sp) (x : Sp), lenL (l ++ [x]) = lenL l + (x.2 - x.1) := fun l x => by
    induction l with
    | nil => simp [lenL]
    | cons y l ih => simp only [List.cons_append, lenL, ih]; omega
  rw [List.take_succ_eq_append_getElem h, ap]
  simp [List.getD_eq_getElem?_getD, h]
theorem chain_take {p : Int} {xs : List Sp} (h : chainB p xs = true) (k : Nat) : chainB p (xs.take k) = true := by
  induction xs generalizing p k with
  | nil => simpa using h
  | cons x xs ih =>
    cases k with
    | zero => rfl
    | succ k =>
      rw [chain_cons] at h
      rw [List.take_succ_cons, chain_cons]
      exact ⟨h.1, h.2.1, ih h.2.2 k⟩
theorem chain_mem {p : Int} {xs : List Sp} (h : chainB p xs = true) : ∀ x ∈ xs, spB x = true := by
  induction xs generalizing p with
  | nil => simp
  | cons x xs ih =>
    rw [chain_cons] at h
    intro y hy
    rcases List.mem_cons.1 hy with rfl | hy
    · exact h.2.1
    · exact ih h.2.2 y hy
theorem chain_at {p : Int} {xs : List Sp} (h : chainB p xs = true) (k : Nat) (hk : k < xs.length) : 0 ≤ (xs.getD k (0, 0)).1 ∧ (xs.getD k (0, 0)).1 < (xs.getD k (0, 0)).2 ∧ (xs.getD k (0, 0)).2 ≤ 1000000 :=
  (spB_iff _).1 (chain_mem h _ (by simp [List.getD_eq_getElem?_getD, hk]))
end Go.Proofs.Ytnkpboobfkjibak
