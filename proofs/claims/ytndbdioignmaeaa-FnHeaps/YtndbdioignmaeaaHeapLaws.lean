/-
  Heaps: down and up keep the order, what is there stays there, the first is the least, what is taken one by one is in order, and how many steps a heap takes at most. Plain facts on lists, no program.
-/
import Derived.Test.YtndbdioignmaeaaHeapMath
namespace Go.Proofs.Ytndbdioignmaeaa

theorem lessB_iff (a b : WkEl) : lessB a b = true ↔ (a.1 < b.1 ∨ (a.1 = b.1 ∧ (a.2.1 < b.2.1 ∨ (a.2.1 = b.2.1 ∧ a.2.2 < b.2.2)))) := by
  unfold lessB
  split
  · split
    · simp only [decide_eq_true_eq]; omega
    · simp only [decide_eq_true_eq]; omega
  · simp only [decide_eq_true_eq]; omega
theorem lessB_no (a b : WkEl) : lessB a b = false ↔ ¬ (a.1 < b.1 ∨ (a.1 = b.1 ∧ (a.2.1 < b.2.1 ∨ (a.2.1 = b.2.1 ∧ a.2.2 < b.2.2)))) := by
  rw [← lessB_iff, Bool.not_eq_true]
theorem lessB_self (a : WkEl) : lessB a a = false := by rw [lessB_no]; omega
theorem lessB_asymm {a b : WkEl} (h : lessB a b = true) : lessB b a = false := by rw [lessB_iff] at h; rw [lessB_no]; omega
theorem lessB_trans {a b c : WkEl} (h : lessB a b = true) (h' : lessB b c = true) : lessB a c = true := by rw [lessB_iff] at h h' ⊢; omega
theorem nless_trans {a b c : WkEl} (h : lessB a b = false) (h' : lessB b c = false) : lessB a c = false := by rw [lessB_no] at h h' ⊢; omega
theorem less_nless {a b c : WkEl} (h : lessB a b = true) (h' : lessB c b = false) : lessB c a = false := by rw [lessB_iff] at h; rw [lessB_no] at h' ⊢; omega
theorem lessB_total {a b : WkEl} (h : lessB a b = false) (h' : lessB b a = false) : a = b := by
  obtain ⟨p, q, r⟩ := a
  obtain ⟨s, t, u⟩ := b
  rw [lessB_no] at h h'
  simp only at h h'
  have e1 : p = s := by omega
  have e2 : q = t := by omega
  have e3 : r = u := by omega
  rw [e1, e2, e3]

theorem getD_swapL (l : List WkEl) (i j k : Nat) (hi : i < l.length) (hj : j < l.length) : (swapL l i j).getD k wz = if k = j then l.getD i wz else if k = i then l.getD j wz else l.getD k wz := by
  unfold swapL
  simp only [List.getD_eq_getElem?_getD]
  by_cases h1 : k = j
  · subst h1; simp [hj]
  · rw [if_neg h1, List.getElem?_set_ne (Ne.symm h1)]
    by_cases h2 : k = i
    · subst h2; simp [hi]
    · rw [if_neg h2, List.getElem?_set_ne (Ne.symm h2)]

/-- In order everywhere but below p, from k on; what is below p is not less than what p is below. -/
def DownInv (k p : Nat) (l : List WkEl) : Prop :=
  k ≤ p ∧ (∀ i, 0 < i → i < l.length → k ≤ (i - 1) / 2 → (i - 1) / 2 ≠ p → lessB (l.getD i wz) (l.getD ((i - 1) / 2) wz) = false) ∧
  (p ≠ k → 0 < p ∧ k ≤ (p - 1) / 2 ∧ ∀ i, 0 < i → i < l.length → (i - 1) / 2 = p → lessB (l.getD i wz) (l.getD ((p - 1) / 2) wz) = false)
def From (k : Nat) (l : List WkEl) : Prop := ∀ i, 0 < i → i < l.length → k ≤ (i - 1) / 2 → lessB (l.getD i wz) (l.getD ((i - 1) / 2) wz) = false

theorem best_no (l : List WkEl) (k : Nat) : ∀ i, 0 < i → i < l.length → (i - 1) / 2 = k → lessB (l.getD i wz) (l.getD (bestOf l k) wz) = false := by
  intro i h0 hi hk
  rcases (by omega : i = 2 * k + 1 ∨ i = 2 * k + 2) with rfl | rfl
  · have h1 : lessB (l.getD (2 * k + 1) wz) (l.getD (best1 l k) wz) = false := by
      unfold best1
      split
      · exact lessB_self _
      · rename_i h
        cases hb : lessB (l.getD (2 * k + 1) wz) (l.getD k wz)
        · rfl
        · exact absurd ⟨hi, hb⟩ h
    unfold bestOf
    split
    · rename_i h
      exact less_nless h.2 h1
    · exact h1
  · unfold bestOf
    split
    · exact lessB_self _
    · rename_i h
      cases hb : lessB (l.getD (2 * k + 2) wz) (l.getD (best1 l k) wz)
      · rfl
      · exact absurd ⟨hi, hb⟩ h
theorem best_less (l : List WkEl) (k : Nat) (h : bestOf l k ≠ k) : lessB (l.getD (bestOf l k) wz) (l.getD k wz) = true ∧ (bestOf l k - 1) / 2 = k ∧ k < bestOf l k ∧ bestOf l k < l.length := by
  have h1 : best1 l k ≠ k → lessB (l.getD (best1 l k) wz) (l.getD k wz) = true ∧ best1 l k = 2 * k + 1 ∧ 2 * k + 1 < l.length := by
    intro hb
    unfold best1 at hb ⊢
    split at hb
    · rename_i hc
      rw [if_pos hc]
      exact ⟨hc.2, rfl, hc.1⟩
    · exact absurd rfl hb
  by_cases hc : 2 * k + 2 < l.length ∧ lessB (l.getD (2 * k + 2) wz) (l.getD (best1 l k) wz) = true
  · have e : bestOf l k = 2 * k + 2 := by unfold bestOf; rw [if_pos hc]
    rw [e]
    refine ⟨?_, by omega, by omega, hc.1⟩
    by_cases hb : best1 l k = k
    · have := hc.2; rw [hb] at this; exact this
    · exact lessB_trans hc.2 (h1 hb).1
  · have e : bestOf l k = best1 l k := by unfold bestOf; rw [if_neg hc]
    rw [e] at h ⊢
    obtain ⟨a, b, c⟩ := h1 h
    exact ⟨a, by omega, by omega, by omega⟩

theorem down_step {k p : Nat} {l : List WkEl} (h : DownInv k p l) (hb : bestOf l p ≠ p) : DownInv k (bestOf l p) (swapL l p (bestOf l p)) := by
  obtain ⟨hkp, ha, hg⟩ := h
  obtain ⟨b1, b2, b3, b4⟩ := best_less l p hb
  have bn := best_no l p
  generalize bestOf l p = b at *
  have G := fun i => getD_swapL l p b i (by omega) b4
  refine ⟨by omega, ?_, ?_⟩
  · intro i h0 hi hk hne
    rw [length_swapL] at hi
    rw [G i, G ((i - 1) / 2), if_neg hne]
    by_cases e1 : i = b
    · rw [if_pos e1, e1, b2, if_pos rfl]
      exact lessB_asymm b1
    · rw [if_neg e1]
      by_cases e2 : i = p
      · rw [if_pos e2, if_neg (by omega)]
        rw [e2]
        exact (hg (by omega)).2.2 b (by omega) b4 b2
      · rw [if_neg e2]
        by_cases e3 : (i - 1) / 2 = p
        · rw [if_pos e3]
          exact bn i h0 hi e3
        · rw [if_neg e3]
          exact ha i h0 hi hk e3
  · intro _
    refine ⟨by omega, by omega, ?_⟩
    intro i h0 hi hib
    rw [length_swapL] at hi
    rw [b2, G i, G p, if_neg (by omega), if_neg (by omega), if_neg (by omega), if_pos rfl]
    have := ha i h0 hi (by omega) (by omega)
    rw [hib] at this
    exact this
theorem down_inv : ∀ (f k p n : Nat) (l : List WkEl), l.length - p ≤ f → p < l.length → DownInv k p l → From k (downL f l p n).1 := by
  intro f
  induction f with
  | zero => intro k p n l hf hp; omega
  | succ f ih =>
    intro k p n l hf hp h
    rw [downL]
    by_cases hb : bestOf l p = p
    · rw [if_pos hb]
      intro i h0 hi hk
      by_cases e : (i - 1) / 2 = p
      · rw [e]
        have := best_no l p i h0 hi e
        rw [hb] at this
        exact this
      · exact h.2.1 i h0 hi hk e
    · rw [if_neg hb]
      obtain ⟨b1, b2, b3, b4⟩ := best_less l p hb
      exact ih k _ _ _ (by rw [length_swapL]; omega) (by rw [length_swapL]; omega) (down_step h hb)
/-- Down from a place below which all is in order. -/
theorem down_from {k : Nat} {l : List WkEl} (hk : k < l.length) (h : From (k + 1) l) (n : Nat) : From k (downL l.length l k n).1 :=
  down_inv l.length k k n l (by omega) hk ⟨Nat.le_refl _, fun i h0 hi h1 h2 => h i h0 hi (by omega), fun hn => absurd rfl hn⟩
theorem make_from : ∀ (j : Nat) (l : List WkEl) (n : Nat), j ≤ l.length → From j l → From 0 (makeF j l n).1 := by
  intro j
  induction j with
  | zero => intro l n _ h; exact h
  | succ j ih =>
    intro l n hj h
    rw [makeF]
    exact ih _ _ (by rw [downL_len]; omega) (down_from (by omega) h 0)
theorem heap_from {l : List WkEl} : heapB l = true ↔ From 0 l := by
  rw [heapB_iff]
  constructor
  · intro h i h0 hi _
    have := h i h0 hi
    unfold okW at this
    simpa using this
  · intro h i h0 hi
    have := h i h0 hi (Nat.zero_le _)
    unfold okW
    rw [show l.getD i (0, 0, 0) = l.getD i wz from rfl, show l.getD ((i - 1) / 2) (0, 0, 0) = l.getD ((i - 1) / 2) wz from rfl, this]
    rfl
theorem makeL_heap (l : List WkEl) : heapB (makeL l).1 = true := by
  rw [heap_from]
  unfold makeL
  refine make_from _ _ _ (by omega) ?_
  intro i h0 hi hk
  omega

/-- In order everywhere but at k; what is below k is not less than what k is below. -/
def UpInv (k : Nat) (l : List WkEl) : Prop :=
  (∀ i, 0 < i → i < l.length → i ≠ k → lessB (l.getD i wz) (l.getD ((i - 1) / 2) wz) = false) ∧
  (0 < k → ∀ i, 0 < i → i < l.length → (i - 1) / 2 = k → lessB (l.getD i wz) (l.getD ((k - 1) / 2) wz) = false)
theorem up_step {k : Nat} {l : List WkEl} (hk : k < l.length) (h : UpInv k l) (h0 : 0 < k) (hl : lessB (l.getD k wz) (l.getD ((k - 1) / 2) wz) = true) : UpInv ((k - 1) / 2) (swapL l k ((k - 1) / 2)) := by
  obtain ⟨ha, hg⟩ := h
  obtain ⟨m, hm⟩ : ∃ m, m = (k - 1) / 2 := ⟨_, rfl⟩
  rw [← hm] at hl ⊢
  have G := fun i => getD_swapL l k m i hk (by omega)
  refine ⟨?_, ?_⟩
  · intro i i0 hi hne
    rw [length_swapL] at hi
    rw [G i, G ((i - 1) / 2), if_neg hne]
    by_cases e1 : i = k
    · rw [if_pos e1, e1, ← hm, if_pos rfl]
      exact lessB_asymm hl
    · rw [if_neg e1]
      by_cases e2 : (i - 1) / 2 = m
      · rw [if_pos e2]
        have := ha i i0 hi e1
        rw [e2] at this
        exact less_nless hl this
      · rw [if_neg e2]
        by_cases e3 : (i - 1) / 2 = k
        · rw [if_pos e3]
          have := hg h0 i i0 hi e3
          rw [← hm] at this
          exact this
        · rw [if_neg e3]
          exact ha i i0 hi e1
  · intro m0 i i0 hi him
    rw [length_swapL] at hi
    rw [G i, G ((m - 1) / 2), if_neg (by omega), if_neg (by omega : (m - 1) / 2 ≠ m), if_neg (by omega : (m - 1) / 2 ≠ k)]
    have hq := ha m m0 (by omega) (by omega)
    by_cases e1 : i = k
    · rw [if_pos e1]
      exact hq
    · rw [if_neg e1]
      have := ha i i0 hi e1
      rw [him] at this
      exact nless_trans this hq
theorem up_inv : ∀ (f k : Nat) (l : List WkEl), k ≤ f → k < l.length → UpInv k l → From 0 (upL f l k).1 := by
  intro f
  induction f with
  | zero =>
    intro k l hf hk h
    obtain rfl : k = 0 := by omega
    exact fun i h0 hi _ => h.1 i h0 hi (by omega)
  | succ f ih =>
    intro k l hf hk h
    rw [upL]
    by_cases hb : 0 < k ∧ lessB (l.getD k wz) (l.getD ((k - 1) / 2) wz) = true
    · rw [if_pos hb]
      exact ih _ _ (by omega) (by rw [length_swapL]; omega) (up_step hk h hb.1 hb.2)
    · rw [if_neg hb]
      intro i h0 hi _
      by_cases e : i = k
      · rw [e]
        cases hc : lessB (l.getD k wz) (l.getD ((k - 1) / 2) wz)
        · rfl
        · exact absurd ⟨by omega, hc⟩ hb
      · exact h.1 i h0 hi e
theorem getD_app (l : List WkEl) (x : WkEl) (i : Nat) (h : i < l.length) : (l ++ [x]).getD i wz = l.getD i wz := by
  simp only [List.getD_eq_getElem?_getD]
  rw [List.getElem?_append_left h]
theorem push_heap {l : List WkEl} (x : WkEl) (h : heapB l = true) : heapB (upL l.length (l ++ [x]) l.length).1 = true := by
  rw [heap_from] at h ⊢
  refine up_inv _ _ _ (Nat.le_refl _) (by simp) ⟨?_, ?_⟩
  · intro i i0 hi hne
    have hi' : i < l.length := by simp at hi; omega
    rw [getD_app l x i hi', getD_app l x _ (by omega)]
    exact h i i0 hi' (Nat.zero_le _)
  · intro _ i i0 hi he
    simp at hi
    omega
/-- The first of a heap is the least. -/
theorem heap_first {l : List WkEl} (h : heapB l = true) : ∀ i, i < l.length → lessB (l.getD i wz) (l.getD 0 wz) = false := by
  rw [heap_from] at h
  intro i
  induction i using Nat.strongRecOn with
  | ind i ih =>
    intro hi
    by_cases h0 : i = 0
    · subst h0; exact lessB_self _
    · exact nless_trans (h i (by omega) hi (Nat.zero_le _)) (ih ((i - 1) / 2) (by omega) (by omega))
theorem getD_take (l : List WkEl) (n i : Nat) (h : i < n) : (l.take n).getD i wz = l.getD i wz := by
  simp only [List.getD_eq_getElem?_getD]
  rw [List.getElem?_take, if_pos h]
theorem getD_set (l : List WkEl) (k i : Nat) (x : WkEl) (hk : k < l.length) : (l.set k x).getD i wz = if i = k then x else l.getD i wz := by
  simp only [List.getD_eq_getElem?_getD]
  by_cases h : i = k
  · subst h; simp [hk]
  · rw [if_neg h, List.getElem?_set_ne (Ne.symm h)]
theorem heap_take {l : List WkEl} (n : Nat) (h : From 0 l) : From 0 (l.take n) := by
  intro i i0 hi _
  rw [List.length_take] at hi
  rw [getD_take _ _ _ (by omega), getD_take _ _ _ (by omega)]
  exact h i i0 (by omega) (Nat.zero_le _)
/-- The last one comes to k, up, and, where it has not moved, down. -/
def putAt (l : List WkEl) (k : Nat) (x : WkEl) : List WkEl :=
  if (upL k (l.set k x) k).2 = k then (downL l.length (upL k (l.set k x) k).1 k 0).1 else (upL k (l.set k x) k).1
theorem upL_le : ∀ (f k : Nat) (l : List WkEl), (upL f l k).2 ≤ k := by
  intro f
  induction f with
  | zero => intro k l; exact Nat.le_refl _
  | succ f ih =>
    intro k l
    rw [upL]
    split
    · have := ih ((k - 1) / 2) (swapL l k ((k - 1) / 2)); omega
    · exact Nat.le_refl _
theorem upL_stay {f k : Nat} {l : List WkEl} (hf : k ≤ f) (h : (upL f l k).2 = k) : (upL f l k).1 = l ∧ (0 < k → lessB (l.getD k wz) (l.getD ((k - 1) / 2) wz) = false) := by
  cases f with
  | zero => exact ⟨rfl, fun h => by omega⟩
  | succ f =>
    rw [upL] at h ⊢
    by_cases hb : 0 < k ∧ lessB (l.getD k wz) (l.getD ((k - 1) / 2) wz) = true
    · rw [if_pos hb] at h
      have := upL_le f ((k - 1) / 2) (swapL l k ((k - 1) / 2))
      omega
    · rw [if_neg hb]
      refine ⟨rfl, fun h0 => ?_⟩
      cases hc : lessB (l.getD k wz) (l.getD ((k - 1) / 2) wz)
      · rfl
      · exact absurd ⟨h0, hc⟩ hb
theorem put_heap {l : List WkEl} (k : Nat) (x : WkEl) (hk : k < l.length) (h : heapB l = true) : heapB (putAt l k x) = true := by
  rw [heap_from] at h ⊢
  have G := fun i => getD_set l k i x hk
  unfold putAt
  by_cases e : (upL k (l.set k x) k).2 = k
  · rw [if_pos e]
    obtain ⟨e1, e2⟩ := upL_stay (Nat.le_refl k) e
    rw [e1]
    have hl : (l.set k x).length = l.length := by simp
    refine down_inv l.length 0 k 0 (l.set k x) (by omega) (by omega) ⟨Nat.zero_le _, ?_, ?_⟩
    · intro i i0 hi _ hne
      rw [hl] at hi
      by_cases ei : i = k
      · rw [ei]; exact e2 (by omega)
      · rw [G i, G ((i - 1) / 2), if_neg ei, if_neg hne]
        exact h i i0 hi (Nat.zero_le _)
    · intro hk0
      refine ⟨by omega, Nat.zero_le _, ?_⟩
      intro i i0 hi hik
      rw [hl] at hi
      rw [G i, G ((k - 1) / 2), if_neg (by omega), if_neg (by omega)]
      have a := h i i0 hi (Nat.zero_le _)
      rw [hik] at a
      exact nless_trans a (h k (by omega) hk (Nat.zero_le _))
  · rw [if_neg e]
    have hm : 0 < k ∧ lessB x (l.getD ((k - 1) / 2) wz) = true := by
      apply Classical.byContradiction
      intro hn
      apply e
      rw [upL_stop]
      rw [G k, G ((k - 1) / 2), if_pos rfl]
      by_cases hk0 : k = 0
      · omega
      · rw [if_neg (by omega)]; exact hn
    refine up_inv _ _ _ (Nat.le_refl _) (by simpa using hk) ⟨?_, ?_⟩
    · intro i i0 hi hne
      have hi' : i < l.length := by simpa using hi
      rw [G i, G ((i - 1) / 2), if_neg hne]
      by_cases e2 : (i - 1) / 2 = k
      · rw [if_pos e2]
        have a := h i i0 hi' (Nat.zero_le _)
        rw [e2] at a
        exact less_nless hm.2 (nless_trans a (h k hm.1 hk (Nat.zero_le _)))
      · rw [if_neg e2]
        exact h i i0 hi' (Nat.zero_le _)
    · intro _ i i0 hi hik
      have hi' : i < l.length := by simpa using hi
      rw [G i, G ((k - 1) / 2), if_neg (by omega), if_neg (by omega)]
      have a := h i i0 hi' (Nat.zero_le _)
      rw [hik] at a
      exact nless_trans a (h k hm.1 hk (Nat.zero_le _))
/-- How often x is among l. -/
def many (l : List WkEl) (x : WkEl) : Nat := l.count x
theorem many_set (l : List WkEl) (k : Nat) (y x : WkEl) (hk : k < l.length) : many (l.set k y) x + (if l.getD k wz = x then 1 else 0) = many l x + (if y = x then 1 else 0) := by
  unfold many
  induction l generalizing k with
  | nil => simp at hk
  | cons a l ih =>
    cases k with
    | zero =>
      simp only [List.set_cons_zero, List.count_cons, List.getD_cons_zero, beq_iff_eq]
      omega
    | succ k =>
      have := ih k (by simpa using hk)
      simp only [List.set_cons_succ, List.count_cons, List.getD_cons_succ, beq_iff_eq] at this ⊢
      omega
theorem many_swapL (l : List WkEl) (i j : Nat) (x : WkEl) (hi : i < l.length) (hj : j < l.length) : many (swapL l i j) x = many l x := by
  have h1 := many_set (l.set i (l.getD j wz)) j (l.getD i wz) x (by simpa using hj)
  have h2 := many_set l i (l.getD j wz) x hi
  rw [getD_set l i j _ hi] at h1
  unfold swapL
  by_cases e : j = i
  · subst e
    rw [if_pos rfl] at h1
    omega
  · rw [if_neg e] at h1
    omega
theorem many_down : ∀ (f p n : Nat) (l : List WkEl) (x : WkEl), p < l.length → many (downL f l p n).1 x = many l x := by
  intro f
  induction f with
  | zero => intro p n l x _; rfl
  | succ f ih =>
    intro p n l x hp
    rw [downL]
    by_cases hb : bestOf l p = p
    · rw [if_pos hb]
    · rw [if_neg hb]
      obtain ⟨_, _, b3, b4⟩ := best_less l p hb
      rw [ih _ _ _ _ (by rw [length_swapL]; omega), many_swapL l _ _ x hp b4]
theorem many_up : ∀ (f k : Nat) (l : List WkEl) (x : WkEl), k < l.length → many (upL f l k).1 x = many l x := by
  intro f
  induction f with
  | zero => intro k l x _; rfl
  | succ f ih =>
    intro k l x hk
    rw [upL]
    split
    · rw [ih _ _ _ (by rw [length_swapL]; omega), many_swapL l _ _ x hk (by omega)]
    · rfl
theorem many_make : ∀ (j : Nat) (l : List WkEl) (n : Nat) (x : WkEl), j ≤ l.length → many (makeF j l n).1 x = many l x := by
  intro j
  induction j with
  | zero => intro l n x _; rfl
  | succ j ih =>
    intro l n x hj
    rw [makeF, ih _ _ _ (by rw [downL_len]; omega), many_down _ _ _ _ _ (by omega)]
theorem many_makeL (l : List WkEl) (x : WkEl) : many (makeL l).1 x = many l x := many_make _ l 0 x (by omega)
theorem makeL_len (l : List WkEl) : (makeL l).1.length = l.length := makeF_len _ _ _
theorem many_take (l : List WkEl) (n : Nat) (x : WkEl) (h : l.length = n + 1) : many (l.take n) x + (if l.getD n wz = x then 1 else 0) = many l x := by
  have e : l = l.take n ++ [l.getD n wz] := by
    have := List.take_succ_eq_append_getElem (l := l) (i := n) (by omega)
    rw [List.take_of_length_le (by omega)] at this
    rw [show l.getD n wz = l[n]'(by omega) by rw [List.getD_eq_getElem?_getD, List.getElem?_eq_getElem (by omega)]; rfl]
    exact this
  generalize hq : l.getD n wz = q at *
  generalize l.take n = t at *
  subst e
  unfold many
  rw [List.count_append, List.count_singleton]
  simp only [beq_iff_eq]
theorem length_putAt (l : List WkEl) (k : Nat) (x : WkEl) : (putAt l k x).length = l.length := by
  unfold putAt
  split
  · rw [downL_len, upL_len]; simp
  · rw [upL_len]; simp
theorem many_putAt (l : List WkEl) (k : Nat) (y x : WkEl) (hk : k < l.length) : many (putAt l k y) x + (if l.getD k wz = x then 1 else 0) = many l x + (if y = x then 1 else 0) := by
  rw [← many_set l k y x hk]
  unfold putAt
  split
  · rw [many_down _ _ _ _ _ (by rw [upL_len]; simpa using hk), many_up _ _ _ _ (by simpa using hk)]
  · rw [many_up _ _ _ _ (by simpa using hk)]
/-- A heap without the one at k: the last one comes there, up, and, where it has not moved, down. -/
def removeL (l : List WkEl) (k : Nat) : List WkEl :=
  if k < l.length - 1 then putAt (l.take (l.length - 1)) k (l.getD (l.length - 1) wz) else l.take (l.length - 1)
theorem length_removeL (l : List WkEl) (k : Nat) : (removeL l k).length = l.length - 1 := by
  unfold removeL
  split
  · rw [length_putAt, List.length_take]; omega
  · rw [List.length_take]; omega
theorem removeL_heap {l : List WkEl} (k : Nat) (h : heapB l = true) : heapB (removeL l k) = true := by
  have h' : heapB (l.take (l.length - 1)) = true := heap_from.2 (heap_take _ (heap_from.1 h))
  unfold removeL
  split
  · exact put_heap k _ (by rw [List.length_take]; omega) h'
  · exact h'
theorem many_removeL (l : List WkEl) (k : Nat) (x : WkEl) (hk : k < l.length) : many (removeL l k) x + (if l.getD k wz = x then 1 else 0) = many l x := by
  have ht := many_take l (l.length - 1) x (by omega)
  unfold removeL
  by_cases e : k < l.length - 1
  · rw [if_pos e]
    have := many_putAt (l.take (l.length - 1)) k (l.getD (l.length - 1) wz) x (by rw [List.length_take]; omega)
    rw [getD_take _ _ _ e] at this
    omega
  · rw [if_neg e, show k = l.length - 1 by omega]
    exact ht
/-- Taken from the front, till it is empty. -/
def popsF : Nat → List WkEl → List WkEl
  | 0, _ => []
  | f + 1, l => if l = [] then [] else l.getD 0 wz :: popsF f (removeL l 0)
theorem mem_many {l : List WkEl} {x : WkEl} : 0 < many l x ↔ x ∈ l := List.count_pos_iff
theorem getD_mem (l : List WkEl) (k : Nat) (h : k < l.length) : l.getD k wz ∈ l := by
  rw [show l.getD k wz = l[k] by rw [List.getD_eq_getElem?_getD, List.getElem?_eq_getElem h]; rfl]
  exact List.getElem_mem h
theorem mem_getD {l : List WkEl} {x : WkEl} (h : x ∈ l) : ∃ k, k < l.length ∧ l.getD k wz = x := by
  obtain ⟨k, hk, e⟩ := List.getElem_of_mem h
  exact ⟨k, hk, by rw [List.getD_eq_getElem?_getD, List.getElem?_eq_getElem hk]; exact e⟩
theorem many_popsF : ∀ (f : Nat) (l : List WkEl) (x : WkEl), l.length ≤ f → many (popsF f l) x = many l x := by
  intro f
  induction f with
  | zero => intro l x h; rw [show l = [] from List.eq_nil_of_length_eq_zero (by omega)]; rfl
  | succ f ih =>
    intro l x h
    rw [popsF]
    by_cases e : l = []
    · rw [if_pos e, e]
    · rw [if_neg e]
      have hl : 0 < l.length := List.length_pos_iff.2 e
      have h1 := ih (removeL l 0) x (by rw [length_removeL]; omega)
      have h2 := many_removeL l 0 x hl
      unfold many at *
      rw [List.count_cons]
      simp only [beq_iff_eq]
      omega
theorem length_popsF : ∀ (f : Nat) (l : List WkEl), l.length ≤ f → (popsF f l).length = l.length := by
  intro f
  induction f with
  | zero => intro l h; rw [show l = [] from List.eq_nil_of_length_eq_zero (by omega)]; rfl
  | succ f ih =>
    intro l h
    rw [popsF]
    by_cases e : l = []
    · rw [if_pos e, e]
    · rw [if_neg e]
      have hl : 0 < l.length := List.length_pos_iff.2 e
      have h1 := ih (removeL l 0) (by rw [length_removeL]; omega)
      rw [length_removeL] at h1
      simp only [List.length_cons]
      omega
/-- None is less than one ahead of it. -/
def Sorted (l : List WkEl) : Prop := ∀ i j, i < j → j < l.length → lessB (l.getD j wz) (l.getD i wz) = false
theorem sorted_popsF : ∀ (f : Nat) (l : List WkEl), l.length ≤ f → heapB l = true → Sorted (popsF f l) := by
  intro f
  induction f with
  | zero => intro l h _ i j hij hj; simp [popsF] at hj
  | succ f ih =>
    intro l h hh
    rw [popsF]
    by_cases e : l = []
    · rw [if_pos e]; intro i j hij hj; simp at hj
    · rw [if_neg e]
      have hl : 0 < l.length := List.length_pos_iff.2 e
      have hlen : (removeL l 0).length ≤ f := by rw [length_removeL]; omega
      have hs := ih (removeL l 0) hlen (removeL_heap 0 hh)
      intro i j hij hj
      cases j with
      | zero => omega
      | succ j =>
        have hj' : j < (popsF f (removeL l 0)).length := by simpa using hj
        cases i with
        | succ i =>
          rw [List.getD_cons_succ, List.getD_cons_succ]
          exact hs i j (by omega) hj'
        | zero =>
          rw [List.getD_cons_succ, List.getD_cons_zero]
          have hm : 0 < many l ((popsF f (removeL l 0)).getD j wz) := by
            have h1 := mem_many.2 (getD_mem _ j hj')
            rw [many_popsF f _ _ hlen] at h1
            have h2 := many_removeL l 0 ((popsF f (removeL l 0)).getD j wz) hl
            omega
          obtain ⟨k, hk, ek⟩ := mem_getD (mem_many.1 hm)
          rw [← ek]
          exact heap_first hh k hk
def sortL (l : List WkEl) : List WkEl := popsF l.length (makeL l).1
theorem sortL_len (l : List WkEl) : (sortL l).length = l.length := by unfold sortL; rw [length_popsF _ _ (by rw [makeL_len]; omega), makeL_len]
theorem many_sortL (l : List WkEl) (x : WkEl) : many (sortL l) x = many l x := by unfold sortL; rw [many_popsF _ _ _ (by rw [makeL_len]; omega), many_makeL]
theorem sortL_sorted (l : List WkEl) : Sorted (sortL l) := sorted_popsF _ _ (by rw [makeL_len]; omega) (makeL_heap l)
/-- What is not less than any stays at the end. -/
theorem push_stays {l : List WkEl} {x : WkEl} (h : ∀ i, i < l.length → lessB x (l.getD i wz) = false) : upL l.length (l ++ [x]) l.length = (l ++ [x], l.length) := by
  apply upL_stop
  rintro ⟨h0, h1⟩
  rw [getD_app l x ((l.length - 1) / 2) (by omega), show (l ++ [x]).getD l.length wz = x by simp [List.getD_eq_getElem?_getD], h _ (by omega)] at h1
  cases h1
theorem all_of_many {l l' : List WkEl} (p : WkEl → Bool) (h : ∀ x, 0 < many l' x → 0 < many l x) (ha : l.all p = true) : l'.all p = true := by
  rw [List.all_eq_true] at ha ⊢
  intro x hx
  exact ha x (mem_many.1 (h x (mem_many.2 hx)))
theorem goodW_of_many {l l' : List WkEl} (h : ∀ x, 0 < many l' x → 0 < many l x) (hl : l'.length ≤ 40) (hg : goodW l = true) : goodW l' = true := by
  unfold goodW at hg ⊢
  rw [Bool.and_eq_true] at hg ⊢
  exact ⟨all_of_many wkB h hg.1, by simpa using hl⟩
/-- The lesser one below k, as the program looks for it. -/
def lesser (l : List WkEl) (k : Nat) : Nat := if 2 * k + 2 < l.length ∧ lessB (l.getD (2 * k + 2) wz) (l.getD (2 * k + 1) wz) = true then 2 * k + 2 else 2 * k + 1
theorem lesser_best (l : List WkEl) (k : Nat) : (lesser l k < l.length ∧ lessB (l.getD (lesser l k) wz) (l.getD k wz) = true) → bestOf l k = lesser l k ∧ lesser l k ≠ k := by
  intro ⟨h1, h2⟩
  have hne : lesser l k ≠ k := by unfold lesser; split <;> omega
  refine ⟨?_, hne⟩
  unfold lesser at h1 h2 ⊢
  by_cases hc : 2 * k + 2 < l.length ∧ lessB (l.getD (2 * k + 2) wz) (l.getD (2 * k + 1) wz) = true
  · rw [if_pos hc] at h1 h2 ⊢
    unfold bestOf
    rw [if_pos]
    refine ⟨hc.1, ?_⟩
    unfold best1
    split
    · exact hc.2
    · exact h2
  · rw [if_neg hc] at h1 h2 ⊢
    have e : best1 l k = 2 * k + 1 := by unfold best1; rw [if_pos ⟨h1, h2⟩]
    unfold bestOf
    rw [e, if_neg hc]
theorem lesser_stop (l : List WkEl) (k : Nat) : ¬ (lesser l k < l.length ∧ lessB (l.getD (lesser l k) wz) (l.getD k wz) = true) → bestOf l k = k := by
  intro h
  apply Classical.byContradiction
  intro hb
  obtain ⟨b1, b2, b3, b4⟩ := best_less l k hb
  have bn := best_no l k
  apply h
  unfold lesser
  by_cases hc : 2 * k + 2 < l.length ∧ lessB (l.getD (2 * k + 2) wz) (l.getD (2 * k + 1) wz) = true
  · rw [if_pos hc]
    refine ⟨hc.1, ?_⟩
    rcases (by omega : bestOf l k = 2 * k + 1 ∨ bestOf l k = 2 * k + 2) with e | e
    · rw [e] at b1; exact lessB_trans hc.2 b1
    · rw [e] at b1; exact b1
  · rw [if_neg hc]
    refine ⟨by omega, ?_⟩
    rcases (by omega : bestOf l k = 2 * k + 1 ∨ bestOf l k = 2 * k + 2) with e | e
    · rw [e] at b1; exact b1
    · have h2 := bn (2 * k + 1) (by omega) (by omega) (by omega)
      rw [e] at h2 b1 b4
      have hn : lessB (l.getD (2 * k + 2) wz) (l.getD (2 * k + 1) wz) = false := by
        cases hx : lessB (l.getD (2 * k + 2) wz) (l.getD (2 * k + 1) wz)
        · rfl
        · exact absurd ⟨b4, hx⟩ hc
      rw [← lessB_total hn h2]
      exact b1
/-- How far one can go down from k, among n. -/
def depF : Nat → Nat → Nat → Nat
  | 0, _, _ => 0
  | f + 1, n, k => if 2 * k + 1 < n then depF f n (2 * k + 1) + 1 else 0
def depSum : Nat → Nat → Nat
  | 0, _ => 0
  | j + 1, n => depF n n j + depSum j n
theorem depF_mono : ∀ (f n k k' : Nat), k ≤ k' → depF f n k' ≤ depF f n k := by
  intro f
  induction f with
  | zero => intro n k k' _; exact Nat.le_refl _
  | succ f ih =>
    intro n k k' h
    rw [depF, depF]
    by_cases h1 : 2 * k' + 1 < n
    · rw [if_pos h1, if_pos (by omega)]
      have := ih n (2 * k + 1) (2 * k' + 1) (by omega)
      omega
    · rw [if_neg h1]; omega
theorem down_dep : ∀ (f p n : Nat) (l : List WkEl), l.length - p ≤ f → p < l.length → (downL f l p n).2 ≤ n + depF f l.length p := by
  intro f
  induction f with
  | zero => intro p n l hf hp; omega
  | succ f ih =>
    intro p n l hf hp
    rw [downL]
    by_cases hb : bestOf l p = p
    · rw [if_pos hb]; exact Nat.le_add_right _ _
    · rw [if_neg hb]
      obtain ⟨_, b2, b3, b4⟩ := best_less l p hb
      have h1 := ih (bestOf l p) (n + 1) (swapL l p (bestOf l p)) (by rw [length_swapL]; omega) (by rw [length_swapL]; omega)
      rw [length_swapL] at h1
      have h2 := depF_mono f l.length (2 * p + 1) (bestOf l p) (by omega)
      rw [depF, if_pos (by omega)]
      omega
theorem make_dep : ∀ (j : Nat) (l : List WkEl) (n : Nat), j ≤ l.length → (makeF j l n).2 ≤ n + depSum j l.length := by
  intro j
  induction j with
  | zero => intro l n _; exact Nat.le_refl _
  | succ j ih =>
    intro l n hj
    rw [makeF, depSum]
    have h1 := ih (downL l.length l j 0).1 (n + (downL l.length l j 0).2) (by rw [downL_len]; omega)
    rw [downL_len] at h1
    have h2 := down_dep l.length j 0 l (by omega) (by omega)
    omega
theorem depSum_lt : ∀ n : Fin 41, 0 < n.val → depSum (n.val / 2) n.val < n.val := by decide +kernel
/-- A heap of at least one is made in fewer steps than there are in it. -/
theorem makeL_steps (l : List WkEl) (h : l.length ≤ 40) (h0 : 0 < l.length) : (makeL l).2 < l.length := by
  have h1 := make_dep (l.length / 2) l 0 (by omega)
  have h2 := depSum_lt ⟨l.length, by omega⟩ h0
  simp only at h2
  unfold makeL
  omega
end Go.Proofs.Ytndbdioignmaeaa
