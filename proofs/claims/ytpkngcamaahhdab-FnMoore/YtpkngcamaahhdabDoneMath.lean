/-
  When each task is done, task by task of an order. Plain arithmetic, no program.
-/
import Derived.Test.YtpkngcamaahhdabMooreMath
namespace Go.Proofs.Ytpkngcamaahhdab

theorem sumL_in {xs : List TkEl} (hg : goodT xs = true) : ∀ (a : List Nat), (∀ k, k ∈ a → k < xs.length) → 0 ≤ sumL (needT xs) a ∧ sumL (needT xs) a ≤ 20 * a.length
  | [], _ => by simp [sumL]
  | k :: a, h => by
    have h1 := sumL_in hg a fun j hj => h j (List.mem_cons_of_mem _ hj)
    have h2 := goodT_at hg k (h k (List.mem_cons_self ..))
    simp only [sumL, List.length_cons]
    omega
/-- When each is done, 0 for those that are not among the first i of the order. -/
def doneU (xs : List TkEl) (a : List Nat) (i : Nat) : List Int := (List.range xs.length).map (doneAt (needT xs) 0 (a.take i))
theorem length_doneU (xs : List TkEl) (a : List Nat) (i : Nat) : (doneU xs a i).length = xs.length := by simp [doneU]
theorem doneU_get (xs : List TkEl) (a : List Nat) (i k : Nat) (h : k < xs.length) : (doneU xs a i).getD k 0 = doneAt (needT xs) 0 (a.take i) k := by simp [doneU, List.getD_eq_getElem?_getD, h]
theorem doneU_zero (xs : List TkEl) (a : List Nat) : doneU xs a 0 = List.replicate xs.length 0 := by
  unfold doneU
  rw [List.take_zero]
  refine List.ext_getElem (by simp) ?_
  intro i h1 h2
  simp [doneAt]
theorem doneU_all (xs : List TkEl) (a : List Nat) (h : a.length ≤ xs.length) : doneU xs a xs.length = doneL xs a := by
  unfold doneU doneL
  rw [List.take_of_length_le h]
theorem take_next {a : List Nat} {i : Nat} (h : i < a.length) : a.take (i + 1) = a.take i ++ [a.getD i 0] := by
  rw [List.take_succ_eq_append_getElem h]
  simp [List.getD_eq_getElem?_getD, h]
theorem next_new {a : List Nat} (hn : a.Nodup) {i : Nat} (h : i < a.length) : a.getD i 0 ∉ a.take i := by
  have e : a.getD i 0 = a[i] := by simp [h]
  rw [e]
  intro hm
  obtain ⟨j, hj, he⟩ := List.mem_iff_getElem.1 hm
  rw [List.length_take] at hj
  rw [List.getElem_take] at he
  exact List.pairwise_iff_getElem.1 hn j i (by omega) h (by omega) he
theorem sum_next (p : Nat → Int) {a : List Nat} {i : Nat} (h : i < a.length) : sumL p (a.take (i + 1)) = sumL p (a.take i) + p (a.getD i 0) := by
  rw [take_next h, sumL_app]
  simp [sumL]
theorem doneU_succ {xs : List TkEl} {a : List Nat} (hn : a.Nodup) {i : Nat} (h : i < a.length) : doneU xs a (i + 1) = (doneU xs a i).set (a.getD i 0) (sumL (needT xs) (a.take (i + 1))) := by
  refine List.ext_getElem (by simp [doneU]) ?_
  intro k h1 h2
  have hk : k < xs.length := by rw [length_doneU] at h1; exact h1
  have e1 : (doneU xs a (i + 1))[k] = doneAt (needT xs) 0 (a.take (i + 1)) k := by simp [doneU]
  have e2 : (doneU xs a i)[k]'(by rw [length_doneU]; exact hk) = doneAt (needT xs) 0 (a.take i) k := by simp [doneU]
  rw [List.getElem_set, e1, e2, take_next h, doneAt_snoc _ (next_new hn h), sumL_app]
  simp only [sumL]
  by_cases e : a.getD i 0 = k
  · rw [if_pos e, if_pos e]; omega
  · rw [if_neg e, if_neg e]
theorem perm_facts {n : Nat} {a : List Nat} (h : a.Perm (List.range n)) : a.Nodup ∧ a.length = n ∧ ∀ k, k ∈ a → k < n :=
  ⟨h.nodup_iff.2 List.nodup_range, by rw [h.length_eq, List.length_range], fun _ hk => List.mem_range.1 (h.mem_iff.1 hk)⟩
theorem getD_mem {a : List Nat} {i : Nat} (h : i < a.length) : a.getD i 0 ∈ a := by
  rw [List.getD_eq_getElem?_getD, List.getElem?_eq_getElem h]
  exact List.getElem_mem _
theorem ofN_get {a : List Nat} {i : Nat} (h : i < a.length) : (ofN a).getD i 0 = ((a.getD i 0 : Nat) : Int) := by simp [ofN, List.getD_eq_getElem?_getD, h]
theorem doneAt_in {xs : List TkEl} (hg : goodT xs = true) {a : List Nat} (ha : a.Perm (List.range xs.length)) (k : Nat) : 0 ≤ doneAt (needT xs) 0 a k ∧ doneAt (needT xs) 0 a k ≤ 200 := by
  obtain ⟨hn, hl, hk⟩ := perm_facts ha
  have hlen := goodT_len hg
  by_cases hm : k ∈ a
  · obtain ⟨A, B, rfl⟩ := List.append_of_mem hm
    have hd : k ∉ A := fun h => (List.nodup_append.1 hn).2.2 k h k (List.mem_cons_self ..) rfl
    rw [doneAt_app _ hd]
    have h1 := sumL_in hg (A ++ [k]) fun j hj => hk j (by
      simp only [List.mem_append, List.mem_cons] at hj ⊢
      rcases hj with h | h | h
      · simp [h]
      · simp [h]
      · cases h)
    rw [sumL_app] at h1
    simp only [sumL, List.length_append, List.length_cons, List.length_nil] at h1 hl
    omega
  · have : ∀ (t : Int) (b : List Nat), k ∉ b → doneAt (needT xs) t b k = 0 := by
      intro t b
      induction b generalizing t with
      | nil => intro _; rfl
      | cons x b ih =>
        intro h
        have hx : x ≠ k := fun e => h (by rw [e]; exact List.mem_cons_self ..)
        unfold doneAt
        rw [if_neg hx]
        exact ih _ fun h' => h (List.mem_cons_of_mem _ h')
    rw [this 0 a hm]
    omega
/-- How many of the first i are done behind their end. -/
def lateTU (xs : List TkEl) (a : List Nat) (i : Nat) : Nat := ((List.range i).filter fun k => decide (endT xs k < doneAt (needT xs) 0 a k)).length
theorem lateTU_succ (xs : List TkEl) (a : List Nat) (i : Nat) : lateTU xs a (i + 1) = lateTU xs a i + (if endT xs i < doneAt (needT xs) 0 a i then 1 else 0) := by
  unfold lateTU
  rw [List.range_succ, List.filter_append, List.length_append]
  by_cases h : endT xs i < doneAt (needT xs) 0 a i <;> simp [h]
theorem lateTU_le (xs : List TkEl) (a : List Nat) (i : Nat) : lateTU xs a i ≤ i := by
  have := List.length_filter_le (fun k => decide (endT xs k < doneAt (needT xs) 0 a k)) (List.range i)
  rw [List.length_range] at this
  exact this
end Go.Proofs.Ytpkngcamaahhdab
