/-
  Spans without the numbers of a span; what is missing, and what both have, by cutting. Plain arithmetic, no program.
-/
import Derived.Test.YtnkpboobfkjibalJoinMath
namespace Go.Proofs.Ytnkpboobfkjibal

/-- What is kept of those that are reached. -/
def keptL (xs : List Sp) (x : Sp) : List Sp :=
  if ahead xs x.1 < upto xs (ahead xs x.1) x.2 then
    (if (xs.getD (ahead xs x.1) (0, 0)).1 < x.1 then [((xs.getD (ahead xs x.1) (0, 0)).1, x.1)] else []) ++ (if x.2 < (xs.getD (upto xs (ahead xs x.1) x.2 - 1) (0, 0)).2 then [(x.2, (xs.getD (upto xs (ahead xs x.1) x.2 - 1) (0, 0)).2)] else [])
  else []
def cutL (xs : List Sp) (x : Sp) : List Sp := xs.take (ahead xs x.1) ++ keptL xs x ++ xs.drop (upto xs (ahead xs x.1) x.2)

def cutOne (y x : Sp) : List Sp := (if y.1 < x.1 then [(y.1, min y.2 x.1)] else []) ++ (if x.2 < y.2 then [(max y.1 x.2, y.2)] else [])
def cutF : List Sp → Sp → List Sp
  | [], _ => []
  | y :: l, x => cutOne y x ++ cutF l x

theorem inB_false (x : Sp) (n : Int) : inB x n = false ↔ ¬ (x.1 ≤ n ∧ n < x.2) := by
  rw [← inB_iff, Bool.not_eq_true]
theorem cutOne_has (y x : Sp) (hx : x.1 < x.2) (n : Int) : hasL (cutOne y x) n = (inB y n && !inB x n) := by
  rw [Bool.eq_iff_iff]
  unfold cutOne
  rw [has_append, Bool.or_eq_true, Bool.and_eq_true, Bool.not_eq_true', inB_iff, inB_false]
  by_cases h1 : y.1 < x.1 <;> by_cases h2 : x.2 < y.2 <;> simp only [h1, h2, if_true, if_false, hasL, Bool.or_false, inB_iff] <;> simp <;> omega
theorem cutF_has (l : List Sp) (x : Sp) (hx : x.1 < x.2) (n : Int) : hasL (cutF l x) n = (hasL l n && !inB x n) := by
  induction l with
  | nil => rfl
  | cons y l ih =>
    simp only [cutF, has_append, ih, cutOne_has y x hx, hasL]
    cases inB y n <;> cases inB x n <;> cases hasL l n <;> rfl
theorem cutF_chain {p : Int} {l : List Sp} {x : Sp} (h : chainB p l = true) (hx : x.1 < x.2) : chainB p (cutF l x) = true := by
  induction l generalizing p with
  | nil => rfl
  | cons y l ih =>
    rw [chain_cons, spB_iff] at h
    have hr := ih h.2.2
    simp only [cutF, cutOne]
    by_cases h1 : y.1 < x.1 <;> by_cases h2 : x.2 < y.2 <;> simp only [h1, h2, if_true, if_false, List.nil_append, List.cons_append, List.append_nil]
    · rw [chain_cons, spB_iff, chain_cons, spB_iff]
      refine ⟨h.1, ⟨h.2.1.1, by simp only; omega, by simp only; omega⟩, by simp only; omega, ⟨by simp only; omega, by simp only; omega, h.2.1.2.2⟩, hr⟩
    · rw [chain_cons, spB_iff]
      exact ⟨h.1, ⟨h.2.1.1, by simp only; omega, by simp only; omega⟩, chain_mono hr (by simp only; omega)⟩
    · rw [chain_cons, spB_iff]
      exact ⟨by simp only; omega, ⟨by simp only; omega, by simp only; omega, h.2.1.2.2⟩, hr⟩
    · exact chain_mono hr (by omega)

theorem fronts_pos {l : List Sp} {t : Int} (h : fronts l t = 0) : ∀ y ∈ l.head?, t < y.1 := by
  cases l with
  | nil => simp
  | cons y l =>
    rw [fronts_cons] at h
    by_cases hy : y.1 ≤ t
    · rw [if_pos hy] at h; omega
    · simpa using hy
theorem cutF_behind {p : Int} {l : List Sp} {x : Sp} (h : chainB p l = true) (hp : ∀ y ∈ l.head?, x.2 < y.1) (hx : x.1 < x.2) : cutF l x = l := by
  induction l generalizing p with
  | nil => rfl
  | cons y l ih =>
    have hy : x.2 < y.1 := hp y (by simp)
    have hc := h
    rw [chain_cons, spB_iff] at h
    simp only [cutF, cutOne]
    rw [if_neg (by omega), if_pos (by omega), ih h.2.2 (fun z hz => by
      have hz' : z ∈ l := by
        cases l with
        | nil => simp at hz
        | cons a l => simp at hz; simp [hz]
      have := chain_lt h.2.2 z hz'
      omega)]
    simp only [List.nil_append, List.cons_append]
    rw [show max y.1 x.2 = y.1 by omega]
/-- Those that begin behind x's beginning. -/
theorem cutF_tail {p : Int} {l : List Sp} {x : Sp} (h : chainB p l = true) (hp : x.1 ≤ p) (hx : x.1 < x.2) :
    cutF l x = (if fronts l x.2 = 0 then [] else (if x.2 < (l.getD (fronts l x.2 - 1) (0, 0)).2 then [(x.2, (l.getD (fronts l x.2 - 1) (0, 0)).2)] else [])) ++ l.drop (fronts l x.2) := by
  induction l generalizing p with
  | nil => simp [cutF, fronts]
  | cons y l ih =>
    by_cases h0 : fronts (y :: l) x.2 = 0
    · rw [if_pos h0, cutF_behind h (fronts_pos h0) hx, h0]
      rfl
    · rw [if_neg h0]
      rw [fronts_cons] at h0 ⊢
      have hy : y.1 ≤ x.2 := by
        by_cases hy : y.1 ≤ x.2
        · exact hy
        · rw [if_neg hy] at h0; omega
      rw [if_pos hy] at h0 ⊢
      have hc := h
      rw [chain_cons, spB_iff] at h
      simp only [cutF, cutOne]
      rw [if_neg (by omega), List.nil_append, ih h.2.2 (by omega), List.drop_succ_cons, Nat.add_sub_cancel]
      by_cases hf : fronts l x.2 = 0
      · rw [if_pos hf, hf]
        simp only [List.getD_cons_zero, List.nil_append]
        by_cases h2 : x.2 < y.2
        · rw [if_pos h2, if_pos h2, show max y.1 x.2 = x.2 by omega]
        · rw [if_neg h2, if_neg h2]
      · rw [if_neg hf]
        have hfl := fronts_le l x.2
        have hy2 : ¬ x.2 < y.2 := by
          intro h2
          apply hf
          cases l with
          | nil => rfl
          | cons z l =>
            rw [fronts_cons, if_neg]
            have := chain_lt h.2.2 z (by simp)
            omega
        rw [if_neg hy2, List.nil_append]
        rw [show (y :: l).getD (fronts l x.2) (0, 0) = l.getD (fronts l x.2 - 1) (0, 0) by
          obtain ⟨m, hm⟩ : ∃ m, fronts l x.2 = m + 1 := ⟨fronts l x.2 - 1, by omega⟩
          rw [hm, List.getD_cons_succ, Nat.add_sub_cancel]]
theorem cutL_cutF {p : Int} {xs : List Sp} {x : Sp} (h : chainB p xs = true) (hx : x.1 < x.2) : cutL xs x = cutF xs x := by
  induction xs generalizing p with
  | nil => simp [cutL, keptL, cutF, ahead, upto]
  | cons y l ih =>
    have hc := h
    rw [chain_cons, spB_iff] at h
    by_cases hy : y.2 < x.1
    · have e1 : ahead (y :: l) x.1 = ahead l x.1 + 1 := by rw [ahead_cons, if_pos hy]
      have e2 : upto (y :: l) (ahead (y :: l) x.1) x.2 = upto l (ahead l x.1) x.2 + 1 := by rw [upto_fronts, upto_fronts, e1, List.drop_succ_cons]; omega
      have e3 : keptL (y :: l) x = keptL l x := by
        unfold keptL
        rw [e2, e1]
        by_cases hlt : ahead l x.1 < upto l (ahead l x.1) x.2
        · rw [if_pos (by omega), if_pos hlt, show upto l (ahead l x.1) x.2 + 1 - 1 = (upto l (ahead l x.1) x.2 - 1) + 1 by omega]
          simp only [List.getD_cons_succ]
        · rw [if_neg (by omega), if_neg hlt]
      have e4 : cutL (y :: l) x = y :: cutL l x := by
        unfold cutL
        rw [e3, e2, e1]
        simp
      rw [e4, ih h.2.2]
      simp only [cutF, cutOne]
      rw [if_pos (by omega), if_neg (by omega), show min y.2 x.1 = y.2 by omega]
      rfl
    · have e1 : ahead (y :: l) x.1 = 0 := by rw [ahead_cons, if_neg hy]
      have e2 : upto (y :: l) 0 x.2 = fronts (y :: l) x.2 := by rw [upto_fronts]; simp
      unfold cutL keptL
      rw [e1, e2]
      simp only [List.take_zero, List.nil_append, List.getD_cons_zero]
      by_cases h0 : fronts (y :: l) x.2 = 0
      · rw [if_neg (by omega), h0, cutF_behind hc (fronts_pos h0) hx]
        rfl
      · rw [if_pos (by omega)]
        rw [fronts_cons] at h0 ⊢
        have hy1 : y.1 ≤ x.2 := by
          by_cases hy : y.1 ≤ x.2
          · exact hy
          · rw [if_neg hy] at h0; omega
        rw [if_pos hy1, List.drop_succ_cons, Nat.add_sub_cancel]
        simp only [cutF, cutOne]
        rw [show min y.2 x.1 = x.1 by omega, cutF_tail h.2.2 (by omega) hx, List.append_assoc, List.append_assoc]
        congr 1
        have hfl := fronts_le l x.2
        by_cases hf : fronts l x.2 = 0
        · rw [if_pos hf, hf, List.getD_cons_zero, List.nil_append]
          by_cases h2 : x.2 < y.2
          · rw [if_pos h2, if_pos h2, show max y.1 x.2 = x.2 by omega]
          · rw [if_neg h2, if_neg h2]
        · rw [if_neg hf]
          have hy2 : ¬ x.2 < y.2 := by
            intro h2
            apply hf
            cases l with
            | nil => rfl
            | cons z l =>
              rw [fronts_cons, if_neg]
              have := chain_lt h.2.2 z (by simp)
              omega
          rw [if_neg hy2, List.nil_append]
          rw [show (y :: l).getD (fronts l x.2) (0, 0) = l.getD (fronts l x.2 - 1) (0, 0) by
            obtain ⟨m, hm⟩ : ∃ m, fronts l x.2 = m + 1 := ⟨fronts l x.2 - 1, by omega⟩
            rw [hm, List.getD_cons_succ, Nat.add_sub_cancel]]

theorem chain_length {p : Int} {l : List Sp} (h : chainB p l = true) (h0 : -1 ≤ p) (h1 : p ≤ 1000000) : (l.length : Int) ≤ 1000000 - p := by
  induction l generalizing p with
  | nil => simp; omega
  | cons y l ih =>
    rw [chain_cons, spB_iff] at h
    have := ih h.2.2 (by omega) (by omega)
    simp only [List.length_cons]
    omega
theorem chain_len' {l : List Sp} (h : chainB (-1) l = true) : l.length ≤ 1048576 := by
  have := chain_length h (by omega) (by omega)
  omega

/-! One cut behind the other -/
def cutAll (l : List Sp) : List Sp → List Sp
  | [] => l
  | x :: xs => cutAll (cutF l x) xs
theorem cutAll_chain {p q : Int} {l xs : List Sp} (h : chainB p l = true) (hx : chainB q xs = true) : chainB p (cutAll l xs) = true := by
  induction xs generalizing l q with
  | nil => exact h
  | cons x xs ih =>
    rw [chain_cons, spB_iff] at hx
    exact ih (cutF_chain h hx.2.1.2.1) hx.2.2
theorem cutAll_has {q : Int} {l xs : List Sp} (hx : chainB q xs = true) (n : Int) : hasL (cutAll l xs) n = (hasL l n && !hasL xs n) := by
  induction xs generalizing l q with
  | nil => simp [cutAll, hasL]
  | cons x xs ih =>
    rw [chain_cons, spB_iff] at hx
    simp only [cutAll, hasL]
    rw [ih hx.2.2, cutF_has _ _ hx.2.1.2.1]
    cases hasL l n <;> cases inB x n <;> cases hasL xs n <;> rfl
theorem cutAll_snoc (l xs : List Sp) (x : Sp) : cutAll l (xs ++ [x]) = cutF (cutAll l xs) x := by
  induction xs generalizing l with
  | nil => rfl
  | cons y xs ih => exact ih _
/-- What is missing. -/
def missI (l : List Sp) (u : Int) : List Sp := if u = 0 then [] else cutAll [(0, u)] l
theorem missI_chain {q : Int} {l : List Sp} {u : Int} (hl : chainB q l = true) (h0 : 0 ≤ u) (h1 : u ≤ 1000000) : chainB (-1) (missI l u) = true := by
  unfold missI
  split
  · rfl
  · refine cutAll_chain ?_ hl
    rw [chain_cons, spB_iff]
    exact ⟨by simp, ⟨by simp, by simp only; omega, h1⟩, rfl⟩
theorem missI_has {q : Int} {l : List Sp} {u : Int} (hl : chainB q l = true) (h0 : 0 ≤ u) (n : Int) : hasL (missI l u) n = (decide (0 ≤ n) && decide (n < u) && !hasL l n) := by
  unfold missI
  split
  · rename_i h
    subst h
    simp only [hasL]
    by_cases h1 : 0 ≤ n
    · rw [show decide (n < 0) = false by simp; omega]; simp
    · rw [show decide (0 ≤ n) = false by simp; omega]; simp
  · rw [cutAll_has hl]
    simp only [hasL, Bool.or_false, inB]
theorem missI_missL {l : List Sp} {u : Int} (hl : chainB (-1) l = true) (h0 : 0 ≤ u) (h1 : u ≤ 1000000) : missI l u = missL l u := by
  have hm : chainB (-1) (missL l u) = true := by have := missF_chain (u := u) (p := 0) hl (Int.le_refl _) h1; exact this
  refine canon (missI_chain hl h0 h1) hm fun n => ?_
  rw [missI_has hl h0]
  have := missF_has (u := u) (p := 0) hl n
  exact this.symm
theorem missL_chain {l : List Sp} {u : Int} (hl : chainB (-1) l = true) (h1 : u ≤ 1000000) : chainB (-1) (missL l u) = true := missF_chain (u := u) (p := 0) hl (Int.le_refl _) h1
theorem missL_has {l : List Sp} {u : Int} (hl : chainB (-1) l = true) (n : Int) : hasL (missL l u) n = (decide (0 ≤ n) && decide (n < u) && !hasL l n) := missF_has (u := u) (p := 0) hl n
/-- What both have, by cutting what the other one misses. -/
theorem cut_meet {a b : List Sp} (ha : chainB (-1) a = true) (hb : chainB (-1) b = true) : cutAll a (missL b 1000000) = meetL a b := by
  refine canon (cutAll_chain ha (missL_chain hb (Int.le_refl _))) (meetL_chain ha hb) fun n => ?_
  rw [cutAll_has (missL_chain hb (Int.le_refl _)), meetL_has, missL_has hb]
  cases e : hasL a n with
  | false => rfl
  | true =>
    have := has_bounds ha e
    rw [show decide (0 ≤ n) = true by simp; omega, show decide (n < 1000000) = true by simp; omega]
    cases hasL b n <;> rfl
theorem meet_cut {a : List Sp} {x : Sp} (ha : chainB (-1) a = true) (hx : spB x = true) : meetL a (missL [x] 1000000) = cutF a x := by
  have hx' := (spB_iff x).1 hx
  have hc : chainB (-1) [x] = true := by rw [chain_cons]; exact ⟨by omega, hx, rfl⟩
  refine canon (meetL_chain ha (missL_chain hc (Int.le_refl _))) (cutF_chain ha hx'.2.1) fun n => ?_
  rw [meetL_has, missL_has hc, cutF_has _ _ hx'.2.1]
  cases e : hasL a n with
  | false => rfl
  | true =>
    have := has_bounds ha e
    rw [show decide (0 ≤ n) = true by simp; omega, show decide (n < 1000000) = true by simp; omega]
    simp only [hasL, Bool.or_false, Bool.true_and]
end Go.Proofs.Ytnkpboobfkjibal
