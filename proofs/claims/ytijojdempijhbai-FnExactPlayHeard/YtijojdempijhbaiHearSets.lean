/-
  What is heard of: the sets that the program makes, held against the plain words. Plain arithmetic.
-/
import Derived.Test.YtijojdempijhbaiSmallSd
namespace Go.Proofs.Ytijojdempijhbai

theorem endN_top (J : List Sp) {p : Int} (h : chainB p J = true) (x : Int) (hx : 0 ≤ x) : decide (x + 3 ≤ topH J) = decide (x < max (endN J - 3) 0) := by
  unfold topH endN
  by_cases h0 : J.length = 0
  · rw [decide_eq_true h0]
    show decide (x + 3 ≤ -1) = decide (x < max (0 - 3) 0)
    rw [decide_eq_decide]
    omega
  · rw [decide_eq_false h0]
    show decide (x + 3 ≤ lastTo J - 1) = decide (x < max (lastTo J - 3) 0)
    have h1 := chain_spot h (J.length - 1) (by omega)
    have h2 := (spB_iff _).1 h1.1.2
    rw [decide_eq_decide]
    unfold lastTo
    omega
theorem fresh_set {J H : List Sp} {n : Nat} (hJ : belB J (n : Int) = true) (x : Int) : (hasL J x && !hasL H x) = (upTo n x && freshF J H x) := by
  unfold freshF
  cases h : hasL J x
  · simp
  · have := bel_has hJ h
    rw [show upTo n x = true by unfold upTo; rw [decide_eq_true_eq]; omega]
    simp
theorem late_set {J : List Sp} {L : List Int} {n m : Nat} (hJ : belB J (n : Int) = true) (hm : max (endN J - 3) 0 = (m : Int)) (x : Int) :
    (upTo m x && !hasL J x && !(L.contains x && !hasL J x)) = (upTo n x && lateF J L x) := by
  have hc : chainB (-1) J = true := by unfold belB at hJ; rw [Bool.and_eq_true] at hJ; exact good_chain hJ.1
  unfold lateF
  by_cases h0 : 0 ≤ x
  · rw [endN_top J hc x h0, hm]
    by_cases h1 : x < (m : Int)
    · have h2 : x < (n : Int) := by
        by_cases e : J.length = 0
        · unfold endN at hm
          rw [decide_eq_true e] at hm
          have : max ((0 : Int) - 3) 0 = (m : Int) := hm
          omega
        · have h3 := (bel_has hJ (chain_last hc e)).2
          unfold endN at hm
          rw [decide_eq_false e] at hm
          have : max (lastTo J - 3) 0 = (m : Int) := hm
          omega
      rw [show upTo m x = true by unfold upTo; rw [decide_eq_true_eq]; omega, show upTo n x = true by unfold upTo; rw [decide_eq_true_eq]; omega, decide_eq_true h1]
      cases hasL J x <;> cases L.contains x <;> rfl
    · rw [show upTo m x = false by unfold upTo; rw [decide_eq_false_iff_not]; omega, decide_eq_false h1]
      cases upTo n x <;> cases hasL J x <;> cases L.contains x <;> rfl
  · rw [show upTo m x = false by unfold upTo; rw [decide_eq_false_iff_not]; omega, show upTo n x = false by unfold upTo; rw [decide_eq_false_iff_not]; omega]
    rfl
theorem lost_set {J : List Sp} {L : List Int} {n : Nat} (hL : ∀ x ∈ L, 0 ≤ x ∧ x ≤ (n : Int) - 1) (x : Int) :
    ((L.contains x && !hasL J x) || (selU (lateF J L) n).contains x) = (upTo n x && lostF J L x) := by
  have e : (selU (lateF J L) n).contains x = (upTo n x && lateF J L x) := by
    rw [List.contains_eq_mem, Bool.eq_iff_iff, decide_eq_true_eq, selU_mem]
  rw [e]
  unfold lateF lostF
  cases h : L.contains x
  · cases upTo n x <;> cases hasL J x <;> simp
  · have hx : x ∈ L := by simpa using h
    have := hL x hx
    rw [show upTo n x = true by unfold upTo; rw [decide_eq_true_eq]; omega]
    cases hasL J x <;> simp
end Go.Proofs.Ytijojdempijhbai
