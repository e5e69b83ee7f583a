/-
  Letters by several ways: plain arithmetic, no program.
-/
import Derived.Test.YtflhlinkolbbiaeLeastAt
namespace Go.Proofs.Ytflhlinkolbbiae


/-! # Letters by several ways -/
/-- a k c: when the letter behind c others arrives on way k. -/
def arrP (a : Nat → Nat → Nat) (W : Nat) : Nat → List Nat
  | 0 => List.replicate W 0
  | m + 1 => addAt (arrP a W m) (bestN (fun k => a k ((arrP a W m).getD k 0)) W) 1
theorem arrP_len (a : Nat → Nat → Nat) (W : Nat) : ∀ m, (arrP a W m).length = W
  | 0 => by simp [arrP]
  | m + 1 => by simp only [arrP, addAt_len, arrP_len a W m]
/-- The last arrival of the first n ways. -/
def lastP (a : Nat → Nat → Nat) (c : List Nat) : Nat → Nat
  | 0 => 0
  | n + 1 => if 0 < c.getD n 0 then max (lastP a c n) (a n (c.getD n 0 - 1)) else lastP a c n
theorem lastP_ge (a : Nat → Nat → Nat) (c : List Nat) : ∀ n k, k < n → 0 < c.getD k 0 → a k (c.getD k 0 - 1) ≤ lastP a c n
  | 0, _, h, _ => absurd h (Nat.not_lt_zero _)
  | n + 1, k, h, hc => by
    unfold lastP
    by_cases e : k = n
    · subst e; rw [if_pos hc]; omega
    · have := lastP_ge a c n k (by omega) hc
      split <;> omega
theorem lastP_le {a : Nat → Nat → Nat} {c : List Nat} {x : Nat} : ∀ {n}, (∀ k, k < n → 0 < c.getD k 0 → a k (c.getD k 0 - 1) ≤ x) → lastP a c n ≤ x
  | 0, _ => Nat.zero_le _
  | n + 1, h => by
    have ih := lastP_le (n := n) fun k hk => h k (by omega)
    unfold lastP
    split
    · have := h n (by omega) ‹_›; omega
    · exact ih
theorem sumAll_le {c d : List Nat} (hl : c.length = d.length) (h : ∀ k, k < c.length → c.getD k 0 ≤ d.getD k 0) : c.sum ≤ d.sum := by
  induction c generalizing d with
  | nil => simp
  | cons x c ih =>
    cases d with
    | nil => simp at hl
    | cons y d =>
      have h0 := h 0 (by simp)
      have := ih (d := d) (by simpa using hl) fun k hk => by have := h (k + 1) (by simpa using hk); simpa using this
      simp only [List.getD_cons_zero] at h0
      simp only [List.sum_cons]; omega
theorem arrP_sum (a : Nat → Nat → Nat) {W : Nat} (hW : 0 < W) : ∀ m, (arrP a W m).sum = m
  | 0 => by simp [arrP]
  | m + 1 => by
    have := bestN_lt (fun k => a k ((arrP a W m).getD k 0)) W hW
    simp only [arrP]
    rw [sum_addAt _ _ _ (by rw [arrP_len]; exact this), arrP_sum a hW m]
/-- What has been put: each last letter was put where the next one would have arrived first. -/
theorem arrP_inv (a : Nat → Nat → Nat) {W : Nat} (hW : 0 < W) : ∀ m k, k < W → 0 < (arrP a W m).getD k 0 → ∃ c : List Nat, c.length = W ∧ c.sum < m ∧ ∀ i, i < W → a k ((arrP a W m).getD k 0 - 1) ≤ a i (c.getD i 0)
  | 0, k, _, h => by simp only [arrP, repl_getD] at h; omega
  | m + 1, k, hk, h => by
    have hb := bestN_lt (fun k => a k ((arrP a W m).getD k 0)) W hW
    have hle := bestN_le (fun k => a k ((arrP a W m).getD k 0)) W
    generalize hbe : bestN (fun k => a k ((arrP a W m).getD k 0)) W = b at hb hle
    have hg : ∀ j, (arrP a W (m + 1)).getD j 0 = (arrP a W m).getD j 0 + if b = j then 1 else 0 := by
      intro j
      simp only [arrP]
      rw [hbe, addAt_getD _ _ _ (by rw [arrP_len]; exact hb)]
    by_cases e : b = k
    · subst e
      refine ⟨arrP a W m, arrP_len a W m, by rw [arrP_sum a hW]; omega, fun i hi => ?_⟩
      rw [hg, if_pos rfl]
      exact hle i hi
    · rw [hg, if_neg e, Nat.add_zero] at h ⊢
      obtain ⟨c, h1, h2, h3⟩ := arrP_inv a hW m k hk h
      exact ⟨c, h1, by omega, h3⟩
/-- No other counts have as many letters there sooner. -/
theorem arr_first (a : Nat → Nat → Nat) (hmono : ∀ k x y, x ≤ y → a k x ≤ a k y) {W : Nat} (hW : 0 < W) {d : List Nat} (hl : d.length = W) : lastP a (arrP a W d.sum) W ≤ lastP a d W := by
  refine Nat.le_of_not_lt fun hbad => ?_
  have : ∃ k, k < W ∧ 0 < (arrP a W d.sum).getD k 0 ∧ lastP a d W < a k ((arrP a W d.sum).getD k 0 - 1) := by
    refine Classical.byContradiction fun hno => ?_
    have := lastP_le (a := a) (c := arrP a W d.sum) (x := lastP a d W) (n := W) fun k hk hc => Nat.le_of_not_lt fun hh => hno ⟨k, hk, hc, hh⟩
    omega
  obtain ⟨k, hk, hc, hlt⟩ := this
  obtain ⟨c, h1, h2, h3⟩ := arrP_inv a hW d.sum k hk hc
  have : d.sum ≤ c.sum := by
    refine sumAll_le (by rw [hl, h1]) fun i hi => Nat.le_of_not_lt fun hh => ?_
    have hi : i < W := by omega
    have a1 := lastP_ge a d W i hi (by omega)
    have a2 := h3 i hi
    have a3 := hmono i (c.getD i 0) (d.getD i 0 - 1) (by omega)
    omega
  omega
/-- One letter more: no count gets less, nothing arrives sooner. -/
theorem arrP_more (a : Nat → Nat → Nat) {W : Nat} (hW : 0 < W) (m k : Nat) : (arrP a W m).getD k 0 ≤ (arrP a W (m + 1)).getD k 0 := by
  have hb := bestN_lt (fun k => a k ((arrP a W m).getD k 0)) W hW
  simp only [arrP]
  rw [addAt_getD _ _ _ (by rw [arrP_len]; exact hb)]
  omega
theorem lastP_more (a : Nat → Nat → Nat) (hmono : ∀ k x y, x ≤ y → a k x ≤ a k y) {W : Nat} (hW : 0 < W) (m : Nat) : lastP a (arrP a W m) W ≤ lastP a (arrP a W (m + 1)) W := by
  refine lastP_le fun k hk hc => ?_
  have h1 := arrP_more a hW m k
  exact Nat.le_trans (hmono k _ _ (by omega)) (lastP_ge a (arrP a W (m + 1)) W k hk (by omega))
theorem arrP_le (a : Nat → Nat → Nat) {W : Nat} (hW : 0 < W) (m k : Nat) : (arrP a W m).getD k 0 ≤ m := by
  have h1 := arrP_sum a hW m
  have : ∀ (s : List Nat) k, s.getD k 0 ≤ s.sum := by
    intro s
    induction s with
    | nil => intro k; simp
    | cons x s ih =>
      intro k
      cases k with
      | zero => simp
      | succ k => have := ih k; simp only [List.getD_cons_succ, List.sum_cons]; omega
  have := this (arrP a W m) k
  omega

end Go.Proofs.Ytflhlinkolbbiae
