/-
  Where the places of good spans below a bound lie. Plain facts.
-/
import Derived.Test.YtnkpboobfkjibakFlowFns
import Derived.Test.YtnkpboobfkjibakLenFacts
namespace Go.Proofs.Ytnkpboobfkjibak

theorem chain_spot : ∀ {p : Int} {l : List Sp}, chainB p l = true → ∀ k, k < l.length → (p < (l.getD k (0, 0)).1 ∧ spB (l.getD k (0, 0)) = true) ∧ (l.getD k (0, 0)).2 ≤ (l.getD (l.length - 1) (0, 0)).2
  | p, [], _, k, hk => by simp at hk
  | p, x :: l, h, k, hk => by
    rw [chain_cons] at h
    have hx := (spB_iff x).1 h.2.1
    rcases k with _ | k
    · refine ⟨⟨h.1, h.2.1⟩, ?_⟩
      rcases l with _ | ⟨y, l⟩
      · simp
      · have h2 := chain_spot h.2.2 ((y :: l).length - 1) (by simp)
        have h3 := (spB_iff _).1 h2.1.2
        have e : (x :: y :: l).getD ((x :: y :: l).length - 1) (0, 0) = (y :: l).getD ((y :: l).length - 1) (0, 0) := by simp
        rw [e]
        show x.2 ≤ _
        omega
    · have hk' : k < l.length := by simpa using hk
      have h2 := chain_spot h.2.2 k hk'
      have e : (x :: l).getD ((x :: l).length - 1) (0, 0) = l.getD (l.length - 1) (0, 0) := by
        rcases l with _ | ⟨y, l⟩
        · simp at hk'
        · simp
      rw [e]
      refine ⟨⟨?_, h2.1.2⟩, h2.2⟩
      show p < (l.getD k (0, 0)).1
      omega
/-- Where the letters of good spans below many lie. -/
theorem bel_has {l : List Sp} {z : Int} (h : belB l z = true) {x : Int} (hx : hasL l x = true) : 0 ≤ x ∧ x < z := by
  unfold belB at h
  rw [Bool.and_eq_true, Bool.or_eq_true, decide_eq_true_eq, decide_eq_true_eq] at h
  have key : ∀ m : List Sp, hasL m x = true → ∃ k, k < m.length ∧ inB (m.getD k (0, 0)) x = true := by
    intro m
    induction m with
    | nil => intro h; cases h
    | cons y m ih =>
      intro h
      have h' : (inB y x || hasL m x) = true := h
      rw [Bool.or_eq_true] at h'
      rcases h' with h' | h'
      · exact ⟨0, by simp, h'⟩
      · obtain ⟨k, hk, e⟩ := ih h'
        exact ⟨k + 1, by simpa using hk, e⟩
  obtain ⟨k, hk, e⟩ := key l hx
  rw [inB_iff] at e
  have h1 := chain_spot (good_chain h.1) k hk
  have h2 := (spB_iff _).1 h1.1.2
  have h3 : lastTo l ≤ z := h.2.resolve_left (by omega)
  unfold lastTo at h3
  omega
theorem chain_last {p : Int} {l : List Sp} (h : chainB p l = true) (h0 : l.length ≠ 0) : hasL l (lastTo l - 1) = true := by
  have h1 := chain_spot h (l.length - 1) (by omega)
  have h2 := (spB_iff _).1 h1.1.2
  have key : ∀ (m : List Sp) k, k < m.length → ∀ x, inB (m.getD k (0, 0)) x = true → hasL m x = true := by
    intro m
    induction m with
    | nil => intro k hk; simp at hk
    | cons y m ih =>
      intro k hk x hx
      show (inB y x || hasL m x) = true
      rcases k with _ | k
      · rw [Bool.or_eq_true]; exact .inl hx
      · rw [Bool.or_eq_true]; exact .inr (ih k (by simpa using hk) x hx)
  refine key l (l.length - 1) (by omega) _ ?_
  rw [inB_iff]
  unfold lastTo
  omega
end Go.Proofs.Ytnkpboobfkjibak
