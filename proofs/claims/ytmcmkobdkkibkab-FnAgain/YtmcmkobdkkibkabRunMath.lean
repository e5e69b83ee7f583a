/-
  What tasks that come again have left, slot by slot: plain arithmetic, no program.
-/
import Derived.Test.YtmcmkobdkkibkabAgnRun
import Derived.Test.YtmcmkobdkkibkabAgnLoad
namespace Go.Proofs.Ytmcmkobdkkibkab

/-- The run of tasks, so many slots. -/
def runL (xs : List AgEl) (t : Nat) : List Int := runU (needA xs) (everyA xs) xs.length t
theorem runL_len (xs : List AgEl) (t : Nat) : (runL xs t).length = t := runU_len _ _ _ _
theorem runL_succ (xs : List AgEl) (t : Nat) : runL xs (t + 1) = runL xs t ++ [pickU (needA xs) (everyA xs) (runL xs t) xs.length] := rfl
theorem cl_next {t : Nat} {q : Int} (hq : 1 ≤ q) : cl ((t : Int) + 1) q = cl (t : Int) q + if (t : Int) % q = 0 then 1 else 0 := by
  rw [cl_succ hq]
  unfold cl
  have h1 := Int.mul_ediv_add_emod (t : Int) q
  have h2 := Int.emod_nonneg (t : Int) (show q ≠ 0 by omega)
  have h3 := Int.emod_lt_of_pos (t : Int) (show 0 < q by omega)
  split
  · rename_i h
    have e : ((t : Int) + q - 1) / q = (t : Int) / q := by
      rw [show (t : Int) + q - 1 = (q - 1) + q * ((t : Int) / q) by omega, Int.add_mul_ediv_left _ _ (by omega), Int.ediv_eq_zero_of_lt (by omega) (by omega)]
      omega
    rw [e]
  · rename_i h
    have e : ((t : Int) + q - 1) / q = (t : Int) / q + 1 := by
      rw [show (t : Int) + q - 1 = ((t : Int) % q - 1) + q * ((t : Int) / q + 1) by rw [Int.mul_add, Int.mul_one]; omega, Int.add_mul_ediv_left _ _ (by omega), Int.ediv_eq_zero_of_lt (by omega) (by omega)]
      omega
    rw [e]
    omega
/-- What the tasks have left in slot t, where the first k have been asked whether they come. -/
def lfF (xs : List AgEl) (t k i : Nat) : Int := needA xs i * cl (if i < k then (t : Int) + 1 else (t : Int)) (everyA xs i) - cntL i (runL xs t)
def lfA (xs : List AgEl) (t k : Nat) : List Int := (List.range xs.length).map (lfF xs t k)
theorem lfA_len (xs : List AgEl) (t k : Nat) : (lfA xs t k).length = xs.length := by simp [lfA]
theorem lfA_get {xs : List AgEl} {t k i : Nat} (hi : i < xs.length) : (lfA xs t k).getD i 0 = lfF xs t k i := by simp [lfA, List.getD_eq_getElem?_getD, hi]
theorem lfA_zero {xs : List AgEl} (h : goodA xs = true) : lfA xs 0 0 = List.replicate xs.length 0 := by
  apply List.ext_getElem
  · simp [lfA]
  · intro i h1 h2
    have hi : i < xs.length := by rw [lfA_len] at h1; exact h1
    simp only [lfA, List.getElem_map, List.getElem_range, List.getElem_replicate]
    unfold lfF
    rw [if_neg (by omega), show ((0 : Nat) : Int) = 0 from rfl, cl_zero ((goodA_tasks h).one hi)]
    show needA xs i * 0 - 0 = 0
    omega
theorem lfF_back (xs : List AgEl) (t i : Nat) {k : Nat} (hk : i < k) : lfF xs t k i = back (needA xs) (everyA xs) (runL xs t) i := by
  unfold lfF back
  rw [if_pos hk, runL_len]
theorem lfF_same (xs : List AgEl) (t i : Nat) {k : Nat} (hk : ¬ i = k) : lfF xs t (k + 1) i = lfF xs t k i := by
  unfold lfF
  by_cases h : i < k
  · rw [if_pos h, if_pos (by omega)]
  · rw [if_neg h, if_neg (by omega)]
theorem lfF_next {xs : List AgEl} (h : goodA xs = true) (t : Nat) {k : Nat} (hk : k < xs.length) : lfF xs t (k + 1) k = lfF xs t k k + if (t : Int) % everyA xs k = 0 then needA xs k else 0 := by
  unfold lfF
  rw [if_pos (by omega), if_neg (by omega), cl_next ((goodA_tasks h).one hk)]
  split
  · rw [Int.mul_add, Int.mul_one]; omega
  · rw [Int.add_zero]; omega
theorem lfA_set {xs : List AgEl} {t k : Nat} {v : Int} (hv : lfF xs t (k + 1) k = v) : lfA xs t (k + 1) = (lfA xs t k).set k v := by
  apply List.ext_getElem
  · simp [lfA]
  · intro i h1 h2
    simp only [lfA, List.getElem_map, List.getElem_range, List.getElem_set]
    by_cases e : k = i
    · subst e; rw [if_pos rfl, hv]
    · rw [if_neg e, lfF_same xs t i (fun h => e h.symm)]
theorem lfA_stay {xs : List AgEl} {t k : Nat} (hv : lfF xs t (k + 1) k = lfF xs t k k) : lfA xs t (k + 1) = lfA xs t k := by
  unfold lfA
  refine List.map_congr_left fun i _ => ?_
  by_cases e : i = k
  · subst e; exact hv
  · exact lfF_same xs t i e
theorem lfF_in {xs : List AgEl} (h : goodA xs = true) {t k i : Nat} (ht : t ≤ 200) (hi : i < xs.length) : 0 ≤ lfF xs t k i ∧ lfF xs t k i ≤ 3000 := by
  have hT := goodA_tasks h
  have h1 := cnt_le hT hi t
  have h2 := cntL_in i (runL xs t)
  have hc := hT.need i hi
  have h3 := Int.mul_le_mul_of_nonneg_left (cl_mono (hT.one hi) (show (t : Int) ≤ (t : Int) + 1 by omega)) (show 0 ≤ needA xs i by omega)
  have h4 : needA xs i * cl ((t : Int) + 1) (everyA xs i) ≤ 3000 := by
    have h5 := cl_nonneg (r := (t : Int) + 1) (hT.one hi) (by omega)
    have h6 := cl_le (r := (t : Int) + 1) (b := 201) (hT.one hi) (by omega) (by omega)
    have h7 := Int.mul_le_mul (show needA xs i ≤ 10 by omega) h6 h5 (by omega)
    omega
  change cntL i (runL xs t) ≤ _ at h1
  unfold lfF
  split <;> omega
theorem lfA_pick {xs : List AgEl} {t j : Nat} (hp : pickU (needA xs) (everyA xs) (runL xs t) xs.length = (j : Int)) : lfA xs (t + 1) 0 = (lfA xs t xs.length).set j (lfF xs t xs.length j - 1) := by
  apply List.ext_getElem
  · simp [lfA]
  · intro i h1 h2
    have hi : i < xs.length := by rw [lfA_len] at h1; exact h1
    simp only [lfA, List.getElem_map, List.getElem_range, List.getElem_set]
    have e1 : lfF xs (t + 1) 0 i = lfF xs t xs.length i - if (j : Int) = (i : Int) then 1 else 0 := by
      unfold lfF
      rw [if_neg (by omega), if_pos hi, show ((t + 1 : Nat) : Int) = (t : Int) + 1 by omega]
      have := run_cnt (needA xs) (everyA xs) xs.length t i
      change cntL i (runL xs (t + 1)) = cntL i (runL xs t) + if pickU (needA xs) (everyA xs) (runL xs t) xs.length = (i : Int) then 1 else 0 at this
      rw [hp] at this
      omega
    rw [e1]
    by_cases e : j = i
    · subst e; simp
    · rw [if_neg e, if_neg (by omega)]
      omega
theorem lfA_none {xs : List AgEl} {t : Nat} (hp : pickU (needA xs) (everyA xs) (runL xs t) xs.length = -1) : lfA xs (t + 1) 0 = lfA xs t xs.length := by
  unfold lfA
  refine List.map_congr_left fun i hi => ?_
  have hi' := List.mem_range.1 hi
  unfold lfF
  rw [if_neg (by omega), if_pos hi', show ((t + 1 : Nat) : Int) = (t : Int) + 1 by omega]
  have := run_cnt (needA xs) (everyA xs) xs.length t i
  change cntL i (runL xs (t + 1)) = cntL i (runL xs t) + if pickU (needA xs) (everyA xs) (runL xs t) xs.length = (i : Int) then 1 else 0 at this
  rw [hp, if_neg (by omega)] at this
  omega
theorem pick_step (xs : List AgEl) (t k : Nat) : pickU (needA xs) (everyA xs) (runL xs t) (k + 1) = if 0 ≤ pickU (needA xs) (everyA xs) (runL xs t) k then pickU (needA xs) (everyA xs) (runL xs t) k else if 0 < lfF xs t (k + 1) k then (k : Int) else -1 := by
  rw [lfF_back xs t k (by omega)]
  rfl
theorem pick_in (xs : List AgEl) (t k : Nat) : -1 ≤ pickU (needA xs) (everyA xs) (runL xs t) k ∧ pickU (needA xs) (everyA xs) (runL xs t) k < k := by
  rcases pickU_is (needA xs) (everyA xs) (runL xs t) k with ⟨h, _⟩ | ⟨j, h1, h2, _⟩ <;> omega
end Go.Proofs.Ytmcmkobdkkibkab
