/-
  The places of a task's number in its run, and when its first coming is done: plain arithmetic, no program.
-/
import Derived.Test.YtmcmkobdkkibkabRunMath
import Derived.Test.YtmcmkobdkkibkabLongFns
namespace Go.Proofs.Ytmcmkobdkkibkab

/-- The places of k among the first t. -/
def occU (s : Nat → Int) (k : Nat) : Nat → List Nat
  | 0 => []
  | t + 1 => if s t = (k : Int) then occU s k t ++ [t] else occU s k t
theorem occU_le (s : Nat → Int) (k t : Nat) : (occU s k t).length ≤ t := by
  induction t with
  | zero => exact Nat.le_refl _
  | succ t ih =>
    unfold occU
    split
    · rw [List.length_append]; simp only [List.length_cons, List.length_nil]; omega
    · omega
theorem occU_pre (s : Nat → Int) (k : Nat) {t n : Nat} (h : t ≤ n) : occU s k t <+: occU s k n := by
  induction n with
  | zero => obtain rfl : t = 0 := by omega
            exact List.prefix_refl _
  | succ n ih =>
    by_cases e : t = n + 1
    · rw [e]; exact List.prefix_refl _
    · have := ih (by omega)
      show _ <+: (if _ then _ else _)
      split
      · exact this.trans (List.prefix_append _ _)
      · exact this
/-- The last of some first places: all ahead of it are the places ahead of it. -/
theorem occU_last {s : Nat → Int} {k : Nat} {pre : List Nat} {x : Nat} : ∀ {n : Nat}, pre ++ [x] <+: occU s k n → x < n ∧ s x = (k : Int) ∧ occU s k x = pre
  | 0, h => by
    have := h.length_le
    simp [occU] at this
  | n + 1, h => by
    unfold occU at h
    split at h
    · rename_i he
      rcases Nat.lt_or_ge (occU s k n).length (pre ++ [x]).length with hl | hl
      · have h1 := h.length_le
        have e := h.eq_of_length (by simp only [List.length_append, List.length_cons, List.length_nil] at hl h1 ⊢; omega)
        obtain ⟨e1, e2⟩ := List.append_inj e (by have := congrArg List.length e; simp only [List.length_append, List.length_cons, List.length_nil] at this; omega)
        cases e2
        exact ⟨by omega, he, e1.symm⟩
      · have h2 : pre ++ [x] <+: occU s k n := List.prefix_of_prefix_length_le h (List.prefix_append _ _) hl
        obtain ⟨a, b, c⟩ := occU_last h2
        exact ⟨by omega, b, c⟩
    · obtain ⟨a, b, c⟩ := occU_last h
      exact ⟨by omega, b, c⟩
theorem runA_at (xs : List AgEl) : ∀ (m t : Nat), t < m → (runL xs m).getD t 0 = pickU (needA xs) (everyA xs) (runL xs t) xs.length
  | 0, t, h => absurd h (by omega)
  | m + 1, t, h => by
    rw [runL_succ]
    by_cases e : t = m
    · subst e
      have hl := runL_len xs t
      simp [List.getD_eq_getElem?_getD, hl]
    · have hl := runL_len xs m
      rw [← runA_at xs m t (by omega)]
      simp [List.getD_eq_getElem?_getD, List.getElem?_append_left (show t < (runL xs m).length by omega)]
def slotR (xs : List AgEl) (t : Nat) : Int := (runL xs 200).getD t 0
theorem cntA_next (xs : List AgEl) (k t : Nat) (ht : t < 200) : cntL k (runL xs (t + 1)) = cntL k (runL xs t) + if slotR xs t = (k : Int) then 1 else 0 := by
  have h := run_cnt (needA xs) (everyA xs) xs.length t k
  change cntL k (runL xs (t + 1)) = cntL k (runL xs t) + _ at h
  have e := runA_at xs 200 t ht
  change slotR xs t = pickU (needA xs) (everyA xs) (runU (needA xs) (everyA xs) xs.length t) xs.length at e
  rw [h, ← e]
theorem occ_cnt (xs : List AgEl) (k : Nat) : ∀ t, t ≤ 200 → ((occU (slotR xs) k t).length : Int) = cntL k (runL xs t)
  | 0, _ => rfl
  | t + 1, h => by
    have ih := occ_cnt xs k t (by omega)
    rw [cntA_next xs k t (by omega)]
    unfold occU
    split
    · rw [List.length_append]; simp only [List.length_cons, List.length_nil]; omega
    · omega
theorem first_yes {xs : List AgEl} {k : Nat} (hg : goodA xs = true) (hk : k < xs.length) {pre : List Nat} {x : Nat} (hp : pre ++ [x] <+: occU (slotR xs) k 200) (hc : ((pre ++ [x]).length : Int) = needA xs k) : lgN xs k = (x : Int) + 1 ∧ lgB xs k = true ∧ x < 200 := by
  obtain ⟨h1, h2, h3⟩ := occU_last hp
  have hl : ((pre.length : Nat) : Int) + 1 = needA xs k := by rw [← hc]; simp
  have e : longA xs k = (x : Int) + 1 := by
    refine (isLong_eq (first_is_long (goodA_tasks hg) hk (.inr ⟨x + 1, by omega, by omega, ?_, fun s hs => ?_⟩)) (longC_is (goodA_tasks hg) hk)).symm
    · show cntL k (runL xs (x + 1)) = _
      rw [cntA_next xs k x h1, if_pos h2, ← occ_cnt xs k x (by omega), h3]
      exact hl
    · show cntL k (runL xs s) < _
      rw [← occ_cnt xs k s (by omega)]
      have := (occU_pre (slotR xs) k (show s ≤ x by omega)).length_le
      rw [h3] at this
      omega
  unfold lgN lgB
  rw [e]
  exact ⟨by rw [if_neg (by omega)], by simp; omega, h1⟩
theorem first_no {xs : List AgEl} {k : Nat} (hg : goodA xs = true) (hk : k < xs.length) (hc : ((occU (slotR xs) k 200).length : Int) < needA xs k) : lgN xs k = 0 ∧ lgB xs k = false := by
  have e : longA xs k = -1 := by
    refine (isLong_eq (first_is_long (goodA_tasks hg) hk (.inl ⟨rfl, fun s hs => ?_⟩)) (longC_is (goodA_tasks hg) hk)).symm
    show cntL k (runL xs s) < _
    rw [← occ_cnt xs k s hs]
    have := (occU_pre (slotR xs) k hs).length_le
    omega
  unfold lgN lgB
  rw [e]
  exact ⟨rfl, rfl⟩
end Go.Proofs.Ytmcmkobdkkibkab
