/-
  The run of tasks that come again, slot by slot, and that the first coming of a task takes as long as the recurrence tells (Joseph and Pandya): plain arithmetic, no program.
-/
import Derived.Test.YtmcmkobdkkibkabAgnMath
namespace Go.Proofs.Ytmcmkobdkkibkab

/-- How many slots a task has. -/
def cntL (i : Nat) : List Int → Int
  | [] => 0
  | x :: s => cntL i s + if x = (i : Int) then 1 else 0
theorem cntL_app (i : Nat) (a b : List Int) : cntL i (a ++ b) = cntL i a + cntL i b := by
  induction a with
  | nil => simp [cntL]
  | cons x a ih => simp only [List.cons_append, cntL, ih]; omega
theorem cntL_one (i : Nat) (a : List Int) (x : Int) : cntL i (a ++ [x]) = cntL i a + if x = (i : Int) then 1 else 0 := by
  rw [cntL_app]
  simp [cntL]
theorem cntL_in (i : Nat) : ∀ s : List Int, 0 ≤ cntL i s ∧ cntL i s ≤ s.length
  | [] => by simp [cntL]
  | x :: s => by
    have := cntL_in i s
    simp only [cntL, List.length_cons]
    split <;> omega
/-- What a task has left to be done, of all that has come up to the slot behind 'prev'. -/
def back (C T : Nat → Int) (prev : List Int) (i : Nat) : Int := C i * cl ((prev.length : Int) + 1) (T i) - cntL i prev
/-- The first of the first k that has something left; -1 for none. -/
def pickU (C T : Nat → Int) (prev : List Int) : Nat → Int
  | 0 => -1
  | k + 1 => if 0 ≤ pickU C T prev k then pickU C T prev k else if 0 < back C T prev k then (k : Int) else -1
theorem pickU_is (C T : Nat → Int) (prev : List Int) : ∀ k, (pickU C T prev k = -1 ∧ ∀ i, i < k → back C T prev i ≤ 0) ∨ ∃ j : Nat, j < k ∧ pickU C T prev k = j ∧ 0 < back C T prev j ∧ ∀ i, i < j → back C T prev i ≤ 0
  | 0 => .inl ⟨rfl, fun i h => absurd h (by omega)⟩
  | k + 1 => by
    rcases pickU_is C T prev k with ⟨h1, h2⟩ | ⟨j, h1, h2, h3, h4⟩
    · by_cases hb : 0 < back C T prev k
      · exact .inr ⟨k, by omega, by rw [pickU, h1, if_neg (by omega), if_pos hb], hb, h2⟩
      · refine .inl ⟨by rw [pickU, h1, if_neg (by omega), if_neg hb], fun i hi => ?_⟩
        by_cases e : i = k
        · subst e; omega
        · exact h2 i (by omega)
    · exact .inr ⟨j, by omega, by rw [pickU, h2, if_pos (by omega)], h3, h4⟩
def runU (C T : Nat → Int) (n : Nat) : Nat → List Int
  | 0 => []
  | t + 1 => runU C T n t ++ [pickU C T (runU C T n t) n]
theorem runU_len (C T : Nat → Int) (n : Nat) : ∀ t, (runU C T n t).length = t
  | 0 => rfl
  | t + 1 => by rw [runU, List.length_append, runU_len C T n t]; rfl
theorem run_cnt (C T : Nat → Int) (n t i : Nat) : cntL i (runU C T n (t + 1)) = cntL i (runU C T n t) + if pickU C T (runU C T n t) n = (i : Int) then 1 else 0 := by
  rw [runU, cntL_one]
theorem run_back (C T : Nat → Int) (n t i : Nat) : back C T (runU C T n t) i = C i * cl ((t : Int) + 1) (T i) - cntL i (runU C T n t) := by
  unfold back
  rw [runU_len]
/-- No task has more than has come. -/
theorem cnt_le {C T : Nat → Int} {n : Nat} (h : Tasks C T n) {i : Nat} (hi : i < n) : ∀ t : Nat, cntL i (runU C T n t) ≤ C i * cl (t : Int) (T i)
  | 0 => by
    rw [show ((0 : Nat) : Int) = 0 from rfl, cl_zero (h.one hi), Int.mul_zero]
    exact Int.le_refl _
  | t + 1 => by
    have ih := cnt_le h hi t
    have hc := h.need i hi
    have hm := Int.mul_le_mul_of_nonneg_left (cl_mono (h.one hi) (show (t : Int) ≤ (t : Int) + 1 by omega)) (show 0 ≤ C i by omega)
    rw [run_cnt, show ((t + 1 : Nat) : Int) = (t : Int) + 1 by omega]
    split
    · rename_i hp
      have hb := run_back C T n t i
      rcases pickU_is C T (runU C T n t) n with ⟨h1, _⟩ | ⟨j, _, h2, h3, _⟩
      · omega
      · obtain rfl : j = i := by omega
        omega
    · omega
theorem sumI_add (f g : Nat → Int) : ∀ k, sumI (fun i => f i + g i) k = sumI f k + sumI g k
  | 0 => rfl
  | k + 1 => by
    simp only [sumI]
    rw [sumI_add f g k]
    omega
theorem sumI_ind (j : Nat) : ∀ k, sumI (fun i => if (j : Int) = (i : Int) then 1 else 0) k = if j < k then 1 else 0
  | 0 => by simp [sumI]
  | k + 1 => by
    simp only [sumI]
    rw [sumI_ind j k]
    by_cases h1 : j < k
    · rw [if_pos h1, if_neg (by omega), if_pos (by omega)]; rfl
    · rw [if_neg h1]
      by_cases h2 : j = k
      · rw [if_pos (by omega), if_pos (by omega)]; rfl
      · rw [if_neg (by omega), if_neg (by omega)]; rfl
/-- Where each slot was one of the first k + 1 tasks' they have all slots. -/
theorem busy {C T : Nat → Int} {n k : Nat} : ∀ t : Nat, (∀ s, s < t → ∃ j : Nat, j ≤ k ∧ pickU C T (runU C T n s) n = j) → sumI (fun i => cntL i (runU C T n t)) (k + 1) = t
  | 0, _ => by
    have : sumI (fun i => cntL i (runU C T n 0)) (k + 1) = sumI (fun _ => 0) (k + 1) := sumI_congr _ fun i _ => rfl
    rw [this]
    have hz : ∀ m, sumI (fun _ => 0) m = 0 := fun m => by
      induction m with
      | zero => rfl
      | succ m ih => simp only [sumI, ih]; rfl
    exact hz _
  | t + 1, h => by
    have ih := busy t fun s hs => h s (by omega)
    obtain ⟨j, hj, hp⟩ := h t (by omega)
    have e : sumI (fun i => cntL i (runU C T n (t + 1))) (k + 1) = sumI (fun i => cntL i (runU C T n t) + if (j : Int) = (i : Int) then 1 else 0) (k + 1) :=
      sumI_congr _ fun i _ => by rw [run_cnt, hp]
    rw [e, sumI_add, ih, sumI_ind, if_pos (by omega)]
    omega
/-- When the first coming of a task is done, within 200 slots; -1 where it is not. -/
def IsFirst (C T : Nat → Int) (n k : Nat) (v : Int) : Prop :=
  (v = -1 ∧ ∀ t : Nat, t ≤ 200 → cntL k (runU C T n t) < C k) ∨ ∃ t : Nat, v = t ∧ t ≤ 200 ∧ cntL k (runU C T n t) = C k ∧ ∀ s : Nat, s < t → cntL k (runU C T n s) < C k
/-- As long as it is not done the slots are its or those of tasks ahead of it. -/
theorem not_done {C T : Nat → Int} {n : Nat} (h : Tasks C T n) {k : Nat} (hk : k < n) {s : Nat} (hs : cntL k (runU C T n s) < C k) : ∃ j : Nat, j ≤ k ∧ pickU C T (runU C T n s) n = j := by
  have hb : 0 < back C T (runU C T n s) k := by
    rw [run_back]
    have h1 := cl_pos (h.one hk) (show 1 ≤ (s : Int) + 1 by omega)
    have h2 := Int.mul_le_mul_of_nonneg_left h1 (show 0 ≤ C k by have := h.need k hk; omega)
    rw [Int.mul_one] at h2
    omega
  rcases pickU_is C T (runU C T n s) n with ⟨_, h2⟩ | ⟨j, h1, h2, h3, h4⟩
  · have := h2 k hk
    omega
  · refine ⟨j, ?_, h2⟩
    rcases Nat.lt_or_ge k j with hlt | hge
    · have := h4 k hlt
      omega
    · exact hge
theorem busy_done {C T : Nat → Int} {n : Nat} (h : Tasks C T n) {k : Nat} (hk : k < n) {t : Nat} (hb : ∀ s : Nat, s < t → cntL k (runU C T n s) < C k) (hf : fR C T k t ≤ t) : C k ≤ cntL k (runU C T n t) := by
  have h1 := busy (k := k) t fun s hs => not_done h hk (hb s hs)
  simp only [sumI] at h1
  have h2 := sumI_le (f := fun i => cntL i (runU C T n t)) (g := fun i => C i * cl (t : Int) (T i)) k fun i hi => cnt_le h (by omega) t
  unfold fR at hf
  omega
theorem first_is_long {C T : Nat → Int} {n : Nat} (h : Tasks C T n) {k : Nat} (hk : k < n) {v : Int} (hv : IsFirst C T n k v) : IsLong C T k v := by
  rcases hv with ⟨rfl, h1⟩ | ⟨t, rfl, ht, he, hb⟩
  · refine .inl ⟨rfl, fun r h0 hr hf => ?_⟩
    obtain ⟨t, rfl⟩ : ∃ t : Nat, r = t := ⟨r.toNat, by omega⟩
    have := busy_done h hk (t := t) (fun s hs => h1 s (by omega)) hf
    have := h1 t (by omega)
    omega
  · have hc := h.need k hk
    have h0 : 0 < t := by
      rcases Nat.eq_zero_or_pos t with h0 | h0
      · subst h0
        have : cntL k (runU C T n 0) = 0 := rfl
        omega
      · exact h0
    obtain ⟨u, rfl⟩ : ∃ u, t = u + 1 := ⟨t - 1, by omega⟩
    have hu := hb u (by omega)
    have hcu := run_cnt C T n u k
    have hp : pickU C T (runU C T n u) n = (k : Int) := by
      by_cases hp : pickU C T (runU C T n u) n = (k : Int)
      · exact hp
      · rw [if_neg hp] at hcu
        omega
    have hless : ∀ i, i < k → cntL i (runU C T n (u + 1)) = C i * cl ((u : Int) + 1) (T i) := by
      intro i hi
      have hin : i < n := by omega
      rcases pickU_is C T (runU C T n u) n with ⟨h1, _⟩ | ⟨j, _, h2, _, h4⟩
      · omega
      · obtain rfl : j = k := by omega
        have h5 := h4 i hi
        rw [run_back] at h5
        have h6 := cnt_le h hin u
        have h7 := Int.mul_le_mul_of_nonneg_left (cl_mono (h.one hin) (show (u : Int) ≤ (u : Int) + 1 by omega)) (show 0 ≤ C i by have := h.need i hin; omega)
        rw [run_cnt, hp, if_neg (by omega)]
        omega
    have hsum := busy (k := k) (u + 1) fun s hs => not_done h hk (hb s hs)
    simp only [sumI] at hsum
    rw [sumI_congr (f := fun i => cntL i (runU C T n (u + 1))) (g := fun i => C i * cl ((u : Int) + 1) (T i)) k hless, he] at hsum
    refine .inr ⟨by omega, by omega, ?_, fun r g0 gf => ?_⟩
    · unfold fR
      rw [show ((u + 1 : Nat) : Int) = (u : Int) + 1 by omega] at hsum ⊢
      omega
    · obtain ⟨q, rfl⟩ : ∃ q : Nat, r = q := ⟨r.toNat, by omega⟩
      rcases Nat.lt_or_ge q (u + 1) with hlt | hge
      · have h1 := busy_done h hk (t := q) (fun s hs => hb s (by omega)) gf
        have h2 := hb q hlt
        omega
      · omega
end Go.Proofs.Ytmcmkobdkkibkab
