/-
  The first of the least, and a number that is added at a place: plain arithmetic, no program.
-/
import Derived.Test.YtdlkilacnnjglaaRows
namespace Go.Proofs.Ytdlkilacnnjglaa

/-- The first of the least among the first n. -/
def bestN (f : Nat → Nat) : Nat → Nat
  | 0 => 0
  | n + 1 => if f n < f (bestN f n) then n else bestN f n
theorem bestN_le (f : Nat → Nat) : ∀ n k, k < n → f (bestN f n) ≤ f k
  | 0, _, h => absurd h (Nat.not_lt_zero _)
  | n + 1, k, h => by
    unfold bestN
    by_cases hk : k = n
    · subst hk; split <;> omega
    · have := bestN_le f n k (by omega)
      split <;> omega
theorem bestN_lt (f : Nat → Nat) : ∀ n, 0 < n → bestN f n < n
  | 0, h => absurd h (Nat.lt_irrefl _)
  | n + 1, _ => by
    unfold bestN
    by_cases hn : n = 0
    · subst hn; simp [bestN]
    · have := bestN_lt f n (by omega)
      split <;> omega
theorem bestN_congr {f f' : Nat → Nat} : ∀ {n}, (∀ k, k < n → f k = f' k) → bestN f n = bestN f' n
  | 0, _ => rfl
  | n + 1, h => by
    unfold bestN
    have ih := bestN_congr (n := n) fun k hk => h k (by omega)
    by_cases hn : n = 0
    · subst hn; simp [bestN]
    · have := bestN_lt f' n (by omega)
      rw [ih, h n (by omega), h _ (by omega : bestN f' n < n + 1)]
theorem bestN_one (f : Nat → Nat) : bestN f 1 = 0 := by simp [bestN]

def addAt (s : List Nat) (h p : Nat) : List Nat := s.set h (s.getD h 0 + p)
theorem addAt_len (s : List Nat) (h p : Nat) : (addAt s h p).length = s.length := by simp [addAt]
theorem getD_setH (s : List Nat) (h x j : Nat) : (s.set h x).getD j 0 = if j = h ∧ h < s.length then x else s.getD j 0 := by
  simp only [List.getD_eq_getElem?_getD, List.getElem?_set]
  by_cases e : h = j
  · subst e
    by_cases hl : h < s.length
    · simp [hl]
    · simp [hl]
  · rw [if_neg e, if_neg (by omega)]
theorem addAt_getD (s : List Nat) {h : Nat} (p j : Nat) (hh : h < s.length) : (addAt s h p).getD j 0 = s.getD j 0 + if h = j then p else 0 := by
  unfold addAt
  rw [getD_setH]
  by_cases e : j = h
  · subst e; simp [hh]
  · rw [if_neg (by omega), if_neg (by omega)]; rfl
theorem repl_getD (H h : Nat) : (List.replicate H 0).getD h 0 = 0 := by
  simp only [List.getD_eq_getElem?_getD, List.getElem?_replicate]
  split <;> rfl
theorem addAt_cons (x : Nat) (s : List Nat) (h p : Nat) : addAt (x :: s) (h + 1) p = x :: addAt s h p := by simp [addAt]
theorem sum_addAt : ∀ (s : List Nat) h p, h < s.length → (addAt s h p).sum = s.sum + p
  | [], _, _, h => by simp at h
  | x :: s, 0, p, _ => by simp [addAt]; omega
  | x :: s, h + 1, p, hh => by rw [addAt_cons, List.sum_cons, List.sum_cons, sum_addAt s h p (by simpa using hh)]; omega

end Go.Proofs.Ytdlkilacnnjglaa
