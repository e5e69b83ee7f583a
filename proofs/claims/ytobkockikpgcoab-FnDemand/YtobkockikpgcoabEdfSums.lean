/-
  Sums over few numbers, and how often a number stands among the first slots: plain arithmetic, no program.
-/
import Derived.Test.YtobkockikpgcoabKJobRows
namespace Go.Proofs.Ytobkockikpgcoab

def sumU (g : Nat → Int) : Nat → Int
  | 0 => 0
  | n + 1 => sumU g n + g n
theorem sumU_le {g h : Nat → Int} {n : Nat} (H : ∀ j, j < n → g j ≤ h j) : sumU g n ≤ sumU h n := by
  induction n with
  | zero => exact Int.le_refl _
  | succ n ih =>
    have h1 := ih fun j hj => H j (by omega)
    have h2 := H n (by omega)
    show sumU g n + g n ≤ sumU h n + h n
    omega
theorem sumU_lt {g h : Nat → Int} {n k : Nat} (H : ∀ j, j < n → g j ≤ h j) (hk : k < n) (hs : g k < h k) : sumU g n < sumU h n := by
  induction n with
  | zero => omega
  | succ n ih =>
    have h2 := H n (by omega)
    show sumU g n + g n < sumU h n + h n
    by_cases e : k = n
    · subst e
      have h1 := sumU_le (n := k) fun j hj => H j (by omega)
      omega
    · have h1 := ih (fun j hj => H j (by omega)) (by omega)
      omega
theorem sumU_zero (n : Nat) : sumU (fun _ => 0) n = 0 := by
  induction n with
  | zero => rfl
  | succ n ih => show sumU _ n + 0 = 0; omega
theorem sumU_add (g h : Nat → Int) (n : Nat) : sumU (fun j => g j + h j) n = sumU g n + sumU h n := by
  induction n with
  | zero => rfl
  | succ n ih => show sumU _ n + (g n + h n) = (sumU g n + g n) + (sumU h n + h n); omega
theorem sumU_congr {g h : Nat → Int} {n : Nat} (H : ∀ j, j < n → g j = h j) : sumU g n = sumU h n :=
  Int.le_antisymm (sumU_le fun j hj => Int.le_of_eq (H j hj)) (sumU_le fun j hj => Int.le_of_eq (H j hj).symm)
theorem sumU_one (v : Int) (n : Nat) : sumU (fun j => if v = (j : Int) then 1 else 0) n = if 0 ≤ v ∧ v < n then 1 else 0 := by
  induction n with
  | zero => rw [if_neg (by omega)]; rfl
  | succ n ih =>
    show sumU _ n + (if v = (n : Int) then 1 else 0) = _
    rw [ih]
    split <;> split <;> split <;> omega

/-- How often j stands among the first u. -/
def cS (s : Nat → Int) (j : Nat) : Nat → Int
  | 0 => 0
  | u + 1 => cS s j u + if s u = (j : Int) then 1 else 0
theorem cS_nonneg (s : Nat → Int) (j u : Nat) : 0 ≤ cS s j u := by
  induction u with
  | zero => exact Int.le_refl _
  | succ u ih => show 0 ≤ cS s j u + _; split <;> omega
theorem cS_mono (s : Nat → Int) (j : Nat) {u v : Nat} (h : u ≤ v) : cS s j u ≤ cS s j v := by
  induction v with
  | zero => obtain rfl : u = 0 := by omega
            exact Int.le_refl _
  | succ v ih =>
    by_cases e : u = v + 1
    · rw [e]; exact Int.le_refl _
    · have := ih (by omega)
      show _ ≤ cS s j v + _
      split <;> omega
theorem cS_same (s : Nat → Int) (j : Nat) {u v : Nat} (h : u ≤ v) (hn : ∀ x, u ≤ x → x < v → s x ≠ (j : Int)) : cS s j v = cS s j u := by
  induction v with
  | zero => obtain rfl : u = 0 := by omega
            rfl
  | succ v ih =>
    by_cases e : u = v + 1
    · rw [e]
    · have := ih (by omega) (fun x h1 h2 => hn x h1 (by omega))
      show cS s j v + _ = _
      rw [if_neg (hn v (by omega) (by omega))]
      omega
/-- All counts together: at most the slots; just as many where each slot has one. -/
theorem sum_cS_le (s : Nat → Int) (n f t : Nat) (h : f ≤ t) : sumU (fun j => cS s j t - cS s j f) n ≤ t - f := by
  induction t with
  | zero =>
    obtain rfl : f = 0 := by omega
    rw [sumU_congr (h := fun _ => 0) (fun j _ => Int.sub_self _), sumU_zero]
    omega
  | succ t ih =>
    by_cases e : f = t + 1
    · subst e
      rw [sumU_congr (h := fun _ => 0) (fun j _ => Int.sub_self _), sumU_zero]
      omega
    · have h1 := ih (by omega)
      have h2 : sumU (fun j => cS s j (t + 1) - cS s j f) n = sumU (fun j => cS s j t - cS s j f) n + sumU (fun j => if s t = (j : Int) then 1 else 0) n := by
        rw [← sumU_add]
        refine sumU_congr fun j _ => ?_
        show cS s j t + _ - _ = _
        omega
      rw [h2, sumU_one]
      split <;> omega
theorem sum_cS_eq (s : Nat → Int) (n f t : Nat) (h : f ≤ t) (hs : ∀ x, f ≤ x → x < t → 0 ≤ s x ∧ s x < n) : sumU (fun j => cS s j t - cS s j f) n = t - f := by
  induction t with
  | zero =>
    obtain rfl : f = 0 := by omega
    rw [sumU_congr (h := fun _ => 0) (fun j _ => Int.sub_self _), sumU_zero]
    omega
  | succ t ih =>
    by_cases e : f = t + 1
    · subst e
      rw [sumU_congr (h := fun _ => 0) (fun j _ => Int.sub_self _), sumU_zero]
      omega
    · have h1 := ih (by omega) (fun x h1 h2 => hs x h1 (by omega))
      have h2 : sumU (fun j => cS s j (t + 1) - cS s j f) n = sumU (fun j => cS s j t - cS s j f) n + sumU (fun j => if s t = (j : Int) then 1 else 0) n := by
        rw [← sumU_add]
        refine sumU_congr fun j _ => ?_
        show cS s j t + _ - _ = _
        omega
      rw [h2, sumU_one, if_pos (hs t (by omega) (by omega))]
      omega
theorem last_of (P : Nat → Prop) (d : Nat) : ∃ f, f ≤ d ∧ (∀ u, f ≤ u → u < d → ¬ P u) ∧ (f = 0 ∨ (0 < f ∧ P (f - 1))) := by
  induction d with
  | zero => exact ⟨0, Nat.le_refl _, fun u _ h => by omega, .inl rfl⟩
  | succ d ih =>
    by_cases h : P d
    · exact ⟨d + 1, Nat.le_refl _, fun u _ _ => by omega, .inr ⟨by omega, h⟩⟩
    · obtain ⟨f, h1, h2, h3⟩ := ih
      refine ⟨f, by omega, fun u hu hd => ?_, h3⟩
      by_cases e : u = d
      · rw [e]; exact h
      · exact h2 u hu (by omega)

theorem none_before {n : Nat} {s st : Nat → Int} (hcome : ∀ (u j : Nat), j < n → s u = (j : Int) → st j ≤ u) (j f : Nat) (hj : j < n) (hs : (f : Int) ≤ st j) : cS s j f = 0 := by
  have := cS_same s j (u := 0) (v := f) (by omega) (fun x _ hx e => by have := hcome x j hj e; omega)
  rw [this]
  rfl

/-- Where one is late there is a while with more to be done than it is long. -/
theorem over_of_late {n : Nat} {s st nd en : Nat → Int} (hpos : ∀ j, j < n → 0 ≤ st j) (hcome : ∀ (u j : Nat), j < n → s u = (j : Int) → st j ≤ u) (hmost : ∀ (u j : Nat), j < n → cS s j u ≤ nd j) (hbest : ∀ (u j : Nat), j < n → st j ≤ u → cS s j u < nd j → ∃ b, b < n ∧ s u = (b : Int) ∧ en b ≤ en j) (k d : Nat) (hk : k < n) (hd : en k = d) (hst : st k < d) (hl : cS s k d < nd k) :
    ∃ f : Nat, f < d ∧ (d : Int) - f < sumU (fun j => if (f : Int) ≤ st j ∧ en j ≤ d then nd j else 0) n := by
  obtain ⟨f, hf, hno, hP⟩ := last_of (fun u => ∀ b, b < n → s u = (b : Int) → (d : Int) < en b) d
  have hrun : ∀ u, f ≤ u → u < d → ∃ b, b < n ∧ s u = (b : Int) ∧ en b ≤ d := by
    intro u h1 h2
    have := hno u h1 h2
    apply Classical.byContradiction
    intro hc
    apply this
    intro b hb e
    apply Classical.byContradiction
    intro hc2
    exact hc ⟨b, hb, e, by omega⟩
  have hhad : ∀ j, j < n → en j ≤ d → st j < f → cS s j f = nd j := by
    intro j hj he hs
    have hp := hpos j hj
    rcases hP with h0 | ⟨h0, hP⟩
    · omega
    · apply Classical.byContradiction
      intro hne
      have hm := hmost f j hj
      have hmm := cS_mono s j (u := f - 1) (v := f) (by omega)
      obtain ⟨b, hb, e, heb⟩ := hbest (f - 1) j hj (by omega) (by omega)
      have := hP b hb e
      omega
  have hkf : (f : Int) ≤ st k := by
    apply Classical.byContradiction
    intro hc
    have h1 := hhad k hk (by omega) (by omega)
    have h2 := cS_mono s k hf
    omega
  refine ⟨f, by omega, ?_⟩
  have he := sum_cS_eq s n f d hf (fun x h1 h2 => by obtain ⟨b, hb, e, _⟩ := hrun x h1 h2; omega)
  rw [← he]
  refine sumU_lt (k := k) (fun j hj => ?_) hk ?_
  · by_cases h1 : en j ≤ d
    · by_cases h2 : (f : Int) ≤ st j
      · rw [if_pos ⟨h2, h1⟩]
        have := hmost d j hj
        have := cS_nonneg s j f
        omega
      · rw [if_neg (by omega)]
        have h3 := hhad j hj h1 (by omega)
        have := hmost d j hj
        omega
    · rw [if_neg (by omega)]
      have := cS_same s j hf (fun x h2 h3 e => by
        obtain ⟨b, hb, eb, hle⟩ := hrun x h2 h3
        have : b = j := by omega
        subst this
        exact h1 hle)
      omega
  · rw [if_pos ⟨hkf, by omega⟩]
    have := none_before hcome k f hk hkf
    omega

/-- Where none is late no while has more to be done than it is long. -/
theorem no_over {n : Nat} {s st nd en : Nat → Int} (hcome : ∀ (u j : Nat), j < n → s u = (j : Int) → st j ≤ u) (e : Nat → Nat) (hen : ∀ j, j < n → en j = e j) (hall : ∀ j, j < n → nd j ≤ cS s j (e j)) (f t : Nat) (hft : f ≤ t) :
    sumU (fun j => if (f : Int) ≤ st j ∧ en j ≤ t then nd j else 0) n ≤ (t : Int) - f := by
  refine Int.le_trans (sumU_le fun j hj => ?_) (sum_cS_le s n f t hft)
  split
  · rename_i h
    have h1 := hall j hj
    have h2 := hen j hj
    have h3 := cS_mono s j (u := e j) (v := t) (by omega)
    have h4 := none_before hcome j f hj h.1
    omega
  · have := cS_mono s j hft
    omega
end Go.Proofs.Ytobkockikpgcoab
