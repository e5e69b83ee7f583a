/-
  Orders of unlike letters, held against the same letters in order. Plain arithmetic.
  A good sender is small. Plain arithmetic.
-/
import Derived.Test.YthmkeinhjlmgmahFlowFns
import Derived.Test.YthmkeinhjlmgmahISortI
import Derived.Test.YthmkeinhjlmgmahIGoodSd
namespace Go.Proofs.Ythmkeinhjlmgmah

theorem fl_get {l : List Int} {i : Nat} (h : i < l.length) : fl l i = l[i] := by show l.getD i 0 = _; simp [List.getD_eq_getElem?_getD, h]
theorem oruU_iff (l : List Int) (many : Int) : ∀ k, k ≤ l.length → (oruU l many k = true ↔ (l.take k).Nodup ∧ ∀ x ∈ l.take k, 0 ≤ x ∧ x ≤ many - 1)
  | 0, _ => by simp [oruU]
  | k + 1, hk => by
    have ih := oruU_iff l many k (by omega)
    show (oruU l many k && (decide (0 ≤ fl l k ∧ fl l k ≤ many - 1) && !(l.take k).contains (fl l k))) = true ↔ _
    rw [Bool.and_eq_true, Bool.and_eq_true, decide_eq_true_eq, ih, List.take_succ_eq_append_getElem (by omega), ← fl_get (by omega : k < l.length), List.nodup_append, Bool.not_eq_true', List.contains_eq_mem, decide_eq_false_iff_not]
    constructor
    · rintro ⟨⟨h1, h2⟩, h3, h4⟩
      refine ⟨⟨h1, by simp, fun a ha b hb e => ?_⟩, fun x hx => ?_⟩
      · rw [List.mem_singleton] at hb
        subst hb e
        exact h4 ha
      · rcases List.mem_append.1 hx with h | h
        · exact h2 x h
        · rw [List.mem_singleton.1 h]; exact h3
    · rintro ⟨⟨h1, _, h3⟩, h4⟩
      exact ⟨⟨h1, fun x hx => h4 x (List.mem_append_left _ hx)⟩, h4 _ (by simp), fun h => h3 _ h _ (by simp) rfl⟩
theorem oruB_iff (l : List Int) (many : Int) : oruB l many = true ↔ l.Nodup ∧ ∀ x ∈ l, 0 ≤ x ∧ x ≤ many - 1 := by
  have h := oruU_iff l many l.length (Nat.le_refl _)
  rw [List.take_length] at h
  exact h
theorem risU_iff (l : List Int) (many : Int) : ∀ k, risU l many k = true ↔ ∀ i, i < k → (0 ≤ fl l i ∧ fl l i ≤ many - 1) ∧ (i = 0 ∨ fl l (i - 1) < fl l i)
  | 0 => by simp [risU]
  | k + 1 => by
    have ih := risU_iff l many k
    show (risU l many k && (decide (0 ≤ fl l k ∧ fl l k ≤ many - 1) && (decide (k = 0) || decide (fl l (k - 1) < fl l k)))) = true ↔ _
    rw [Bool.and_eq_true, Bool.and_eq_true, Bool.or_eq_true, decide_eq_true_eq, decide_eq_true_eq, decide_eq_true_eq, ih]
    constructor
    · rintro ⟨h1, h2⟩ i hi
      by_cases e : i = k
      · subst e; exact h2
      · exact h1 i (by omega)
    · intro h
      exact ⟨fun i hi => h i (by omega), h k (by omega)⟩
theorem risB_rising {l : List Int} (h : l.Pairwise (· < ·)) (many : Int) : risB l many = true ↔ ∀ x ∈ l, 0 ≤ x ∧ x ≤ many - 1 := by
  unfold risB
  rw [risU_iff]
  constructor
  · intro hh x hx
    obtain ⟨i, hi, rfl⟩ := List.getElem_of_mem hx
    have := (hh i hi).1
    rwa [fl_get hi] at this
  · intro hh i hi
    rw [fl_get hi]
    refine ⟨hh _ (List.getElem_mem _), ?_⟩
    by_cases e : i = 0
    · exact .inl e
    · refine .inr ?_
      rw [fl_get (by omega : i - 1 < l.length)]
      exact List.pairwise_iff_getElem.1 h (i - 1) i (by omega) hi (by omega)
/-- The same letters, each once. -/
theorem once (l : List Int) : ∃ d : List Int, d.Nodup ∧ (∀ x, x ∈ d ↔ x ∈ l) ∧ d.length ≤ l.length ∧ (d.length = l.length → l.Nodup) ∧ (l.Nodup → d.length = l.length) := by
  induction l with
  | nil => exact ⟨[], List.nodup_nil, fun x => Iff.rfl, Nat.le_refl _, fun _ => List.nodup_nil, fun _ => rfl⟩
  | cons a l ih =>
    obtain ⟨d, h1, h2, h3, h4, h5⟩ := ih
    by_cases ha : a ∈ l
    · refine ⟨d, h1, fun x => ?_, by simp; omega, fun e => ?_, fun e => ?_⟩
      · rw [h2, List.mem_cons]
        exact ⟨.inr, fun h => h.elim (fun e => e ▸ ha) id⟩
      · simp at e; omega
      · exact absurd ha (List.nodup_cons.1 e).1
    · refine ⟨a :: d, List.nodup_cons.2 ⟨fun h => ha ((h2 a).1 h), h1⟩, fun x => ?_, by simpa using h3, fun e => ?_, fun e => ?_⟩
      · rw [List.mem_cons, List.mem_cons, h2]
      · exact List.nodup_cons.2 ⟨ha, h4 (by simpa using e)⟩
      · have := h5 (List.nodup_cons.1 e).2
        simpa using this
theorem rising_len {l : List Int} {m : Nat} (h : l.Pairwise (· < ·)) (hm : ∀ x ∈ l, 0 ≤ x ∧ x < (m : Int)) : l.length ≤ m := by
  have key : ∀ i, (hi : i < l.length) → (i : Int) ≤ l[i] := by
    intro i
    induction i with
    | zero => intro hi; exact (hm _ (List.getElem_mem _)).1
    | succ i ih =>
      intro hi
      have h1 := ih (by omega)
      have h2 := List.pairwise_iff_getElem.1 h i (i + 1) (by omega) hi (by omega)
      omega
  by_cases h0 : l.length = 0
  · omega
  · have h1 := key (l.length - 1) (by omega)
    have h2 := (hm _ (List.getElem_mem (by omega : l.length - 1 < l.length))).2
    omega
theorem nodup_len {l : List Int} {m : Nat} (h : l.Nodup) (hm : ∀ x ∈ l, 0 ≤ x ∧ x < (m : Int)) : l.length ≤ m := by
  have h1 := rising_len (sort_lt l h) (fun x hx => hm x ((sort_mem l x).1 hx))
  rwa [List.length_mergeSort] at h1
theorem oruB_len {l : List Int} {many : Int} (h : oruB l many = true) (hm : many ≤ 60) : l.length ≤ 60 := by
  rw [oruB_iff] at h
  exact nodup_len h.1 fun x hx => by have := h.2 x hx; omega
theorem oru_of_set {l ys : List Int} (hy : ys.Pairwise (· < ·)) (hx : ∀ x, x ∈ ys ↔ x ∈ l) (many : Int) : oruB l many = (decide (ys.length = l.length) && risB ys many) := by
  obtain ⟨d, h1, h2, h3, h4, h5⟩ := once l
  have e : ys = d.mergeSort leZ := rising_eq hy (sort_lt d h1) fun x => by rw [hx, sort_mem, h2]
  have el : ys.length = d.length := by rw [e, List.length_mergeSort]
  rw [Bool.eq_iff_iff, oruB_iff, Bool.and_eq_true, decide_eq_true_eq, risB_rising hy, el]
  constructor
  · rintro ⟨a, b⟩
    exact ⟨h5 a, fun x hh => b x ((hx x).1 hh)⟩
  · rintro ⟨a, b⟩
    exact ⟨h4 a, fun x hh => b x ((hx x).2 hh)⟩
end Go.Proofs.Ythmkeinhjlmgmah
namespace Go.Proofs.Ythmkeinhjlmgmah

theorem goodSd_parts {D : SdD} (h : goodSd D = true) : belB D.f1 D.f0 = true ∧ risB D.f2 D.f0 = true := by
  unfold goodSd at h
  rw [Bool.and_eq_true, Bool.and_eq_true, Bool.and_eq_true] at h
  exact ⟨h.2.1, h.2.2.1⟩
theorem risB_pair {l : List Int} {many : Int} (h : risB l many = true) : l.Pairwise (· < ·) := by
  unfold risB at h
  rw [risU_iff] at h
  have key : ∀ j i, i < j → (hj : j < l.length) → fl l i < fl l j := by
    intro j
    induction j with
    | zero => intro i hi; omega
    | succ j ih =>
      intro i hi hj
      have h1 := (h (j + 1) hj).2.resolve_left (by omega)
      rw [Nat.add_sub_cancel] at h1
      by_cases e : i = j
      · subst e; exact h1
      · have := ih i (by omega) (by omega)
        omega
  refine List.pairwise_iff_getElem.2 fun i j hi hj hij => ?_
  have := key j i hij hj
  rwa [fl_get hi, fl_get hj] at this
theorem goodSd_few {D : SdD} (h : goodSd D = true) : (0 ≤ D.f0 ∧ D.f0 ≤ 60) ∧ D.f1.length ≤ 20 ∧ D.f2.length ≤ 60 := by
  obtain ⟨h1, h2⟩ := goodSd_parts h
  have h0 : 0 ≤ D.f0 ∧ D.f0 ≤ 60 := by
    unfold goodSd at h
    rw [Bool.and_eq_true, decide_eq_true_eq] at h
    exact h.1
  refine ⟨h0, ?_, ?_⟩
  · unfold belB at h1
    rw [Bool.and_eq_true] at h1
    exact good_len h1.1
  · exact rising_len (m := 60) (risB_pair h2) fun x hx => by have := risB_mem h2 x hx; omega
end Go.Proofs.Ythmkeinhjlmgmah
