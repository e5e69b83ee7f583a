/-
  Plain facts on good spans. No program.
  Good spans below many: where they lie. Plain arithmetic.
-/
import Derived.Test.YthmkeinhjlmgmahSpanMath
import Derived.Test.YthmkeinhjlmgmahFlowFns
namespace Go.Proofs.Ythmkeinhjlmgmah

theorem good_chain {xs : List Sp} (h : goodL xs = true) : chainB (-1) xs = true := by
  unfold goodL at h
  rw [Bool.and_eq_true] at h
  exact h.1
theorem good_len {xs : List Sp} (h : goodL xs = true) : xs.length ≤ 20 := by
  unfold goodL at h
  rw [Bool.and_eq_true] at h
  simpa using h.2
end Go.Proofs.Ythmkeinhjlmgmah
namespace Go.Proofs.Ythmkeinhjlmgmah

theorem chain_spot : ∀ {p : Int} {l : List Sp}, chainB p l = true → ∀ k, k < l.length → (p < (l.getD k (0, 0)).1 ∧ spB (l.getD k (0, 0)) = true) ∧ (l.getD k (0, 0)).2 ≤ (l.getD (l.length - 1) (0, 0)).2
  | p, [], _, k, hk => by simp at hk
  | p, x :: l, h, k, hk => by
    rw [chain_cons] at h
    have hx := (spB_iff x).1 h.2.1
    rcases k with _ | k
    · refine ⟨⟨h.1, h.2.1⟩, ?_⟩
      rcases l with _ | ⟨y, l⟩
      · simp
      · have h2 := chain_spot h.2.2 ((y :: l).length - 1) (by simp)
        have h3 := (spB_iff _).1 h2.1.2
        have e : (x :: y :: l).getD ((x :: y :: l).length - 1) (0, 0) = (y :: l).getD ((y :: l).length - 1) (0, 0) := by simp
        rw [e]
        show x.2 ≤ _
        omega
    · have hk' : k < l.length := by simpa using hk
      have h2 := chain_spot h.2.2 k hk'
      have e : (x :: l).getD ((x :: l).length - 1) (0, 0) = l.getD (l.length - 1) (0, 0) := by
        rcases l with _ | ⟨y, l⟩
        · simp at hk'
        · simp
      rw [e]
      refine ⟨⟨?_, h2.1.2⟩, h2.2⟩
      show p < (l.getD k (0, 0)).1
      omega
theorem bel_in {l : List Sp} {z : Int} (h : belB l z = true) (hz : 0 ≤ z ∧ z ≤ 60) : ∀ k, k < l.length → 0 ≤ (l.getD k (0, 0)).1 ∧ (l.getD k (0, 0)).2 ≤ 60 := by
  intro k hk
  unfold belB at h
  rw [Bool.and_eq_true, Bool.or_eq_true, decide_eq_true_eq, decide_eq_true_eq] at h
  have h1 := chain_spot (good_chain h.1) k hk
  have h2 := (spB_iff _).1 h1.1.2
  have h3 : lastTo l ≤ z := h.2.resolve_left (by omega)
  unfold lastTo at h3
  omega
end Go.Proofs.Ythmkeinhjlmgmah
