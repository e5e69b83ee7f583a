/-
  How long what comes waits, counted from its own tick on: plain arithmetic, no program.
-/
import Derived.Test.YtcieefggijjekazDelFns
namespace Go.Proofs.Ytcieefggijjekaz

def mx7 (p q : Int) : Int := if p < q then q else p
def mn7 (p q : Int) : Int := if q < p then q else p
theorem mn7_eq (p q : Int) : mn7 p q = lst7 p q := by unfold mn7 lst7; split <;> split <;> omega
theorem mn7_comm (p q : Int) : mn7 p q = lst7 q p := rfl
theorem until_is {f o : Nat → Int} {n t u : Nat} (ho : ∀ i, 0 ≤ o i) (htu : t ≤ u) (hun : u ≤ n)
    (h1 : ∀ i, t ≤ i → i < u → psum o (i + 1) < psum f (t + 1)) (h2 : u = n ∨ psum f (t + 1) ≤ psum o (u + 1)) {m : Int} (hm : 0 ≤ m) :
    mx7 m ((u : Int) - t) = if m > dly f o n t then m else dly f o n t := by
  have hk := kOf_is o (psum f (t + 1)) n
  have hd : dly f o n t = if psum o (kOf o (psum f (t + 1)) n) < psum f (t + 1) then (n : Int) - t else (kOf o (psum f (t + 1)) n : Int) - 1 - t := rfl
  generalize kOf o (psum f (t + 1)) n = k at hk hd
  generalize psum f (t + 1) = c at hk hd h1 h2
  generalize dly f o n t = d at hd
  subst hd
  unfold mx7
  by_cases hlt : psum o k < c
  · rw [if_pos hlt]
    have hkn : k = n := by
      rcases hk.2.2 with h | h
      · omega
      · exact h
    subst hkn
    have hu : u = k := by
      rcases h2 with h | h
      · exact h
      · by_cases e : u = k
        · exact e
        · have := psum_mono ho (a := u + 1) k (by omega)
          omega
    subst hu
    split <;> split <;> omega
  · rw [if_neg hlt]
    by_cases hkt : k ≤ t + 1
    · have hu : u = t := by
        by_cases e : u = t
        · exact e
        · have a1 := h1 t (Nat.le_refl _) (by omega)
          have a2 := psum_mono ho (a := k) (t + 1) hkt
          omega
      subst hu
      split <;> split <;> omega
    · have hu : u = k - 1 := by
        by_cases e : u < k - 1
        · rcases h2 with h | h
          · have := hk.1; omega
          · have := hk.2.1 (u + 1) (by omega); omega
        · by_cases e2 : u = k - 1
          · exact e2
          · have := h1 (k - 1) (by omega) (by omega)
            rw [show k - 1 + 1 = k by omega] at this
            omega
      have hkk : (u : Int) = (k : Int) - 1 := by omega
      rw [hkk]
      split <;> split <;> omega
/-- What has been looked at of out is as said. -/
def OutTo (f o : Nat → Int) (k : Nat) : Prop := (∀ i, i < k → 0 ≤ o i ∧ psum o (i + 1) ≤ psum f (i + 1)) ∧ (0 ≤ psum o k ∧ psum o k ≤ psum f k)
theorem OutTo.zero (f o : Nat → Int) : OutTo f o 0 := ⟨fun i h => absurd h (by omega), Int.le_refl _, Int.le_refl _⟩
theorem OutTo.succ {f o : Nat → Int} {k : Nat} (h : OutTo f o k) (h0 : 0 ≤ o k) (h1 : o k ≤ psum f k - psum o k + f k) : OutTo f o (k + 1) := by
  have e1 : psum o (k + 1) = psum o k + o k := rfl
  have e2 : psum f (k + 1) = psum f k + f k := rfl
  have h2 := h.2
  refine ⟨fun i hi => ?_, by omega, by omega⟩
  by_cases e : i = k
  · rw [e]; exact ⟨h0, by omega⟩
  · exact h.1 i (by omega)
def outAll (xs ys : List Int) : Bool := outF ys && decide (ys.length = xs.length) && goneF xs ys
theorem delF_of {xs ys : List Int} (h : flowB xs = true) : delF xs ys = outAll xs ys := by
  unfold delF outAll
  rw [h]
  simp
theorem delF_no {xs ys : List Int} (h : flowB xs = false) : delF xs ys = false := by
  unfold delF
  rw [h]
  simp
theorem outAll_len {xs ys : List Int} (h : ys.length ≠ xs.length) : outAll xs ys = false := by
  unfold outAll
  rw [decide_eq_false h]
  simp
theorem outAll_neg {xs ys : List Int} {k : Nat} (hk : k < ys.length) (h : fl ys k < 0) : outAll xs ys = false := by
  have : outF ys = false := by
    rw [← Bool.not_eq_true, outF, List.all_eq_true]
    intro hh
    have := hh (ys.getD k 0) (by simp [List.getD_eq_getElem?_getD, hk])
    rw [decide_eq_true_eq] at this
    unfold fl at h
    omega
  unfold outAll
  rw [this]
  simp
theorem outAll_more {xs ys : List Int} {k : Nat} (hk : k < xs.length) (h : psum (fl xs) (k + 1) < psum (fl ys) (k + 1)) : outAll xs ys = false := by
  have : goneF xs ys = false := by
    rw [← Bool.not_eq_true, goneF, List.all_eq_true]
    intro hh
    have := hh k (List.mem_range.2 hk)
    rw [decide_eq_true_eq] at this
    omega
  unfold outAll
  rw [this]
  simp
theorem outAll_yes {xs ys : List Int} (hf : flowB xs = true) (hl : ys.length = xs.length) (h : OutTo (fl xs) (fl ys) xs.length) : outAll xs ys = true := by
  unfold outAll
  rw [Bool.and_eq_true, Bool.and_eq_true, decide_eq_true_eq]
  refine ⟨⟨?_, hl⟩, ?_⟩
  · rw [outF, List.all_eq_true]
    intro y hy
    obtain ⟨k, hk, rfl⟩ := List.getElem_of_mem hy
    have h1 := h.1 k (by omega)
    have e1 : psum (fl ys) (k + 1) = psum (fl ys) k + fl ys k := rfl
    have h2 : 0 ≤ psum (fl ys) k := by
      by_cases e : k = 0
      · rw [e]; exact Int.le_refl _
      · have a : ∀ j, j ≤ k → 0 ≤ psum (fl ys) j := by
          intro j
          induction j with
          | zero => intro _; exact Int.le_refl _
          | succ j ih => intro hj; have b := ih (by omega); have c := (h.1 j (by omega)).1; show 0 ≤ psum (fl ys) j + fl ys j; omega
        exact a k (Nat.le_refl _)
    have h3 := psum_in (f := fl xs) (b := 60) (flowB_in hf) (k + 1)
    have h4 := flowB_len hf
    have e2 : fl ys k = ys[k] := by simp [fl, List.getD_eq_getElem?_getD, hk]
    rw [decide_eq_true_eq]
    rw [e2] at h1 e1
    omega
  · rw [goneF, List.all_eq_true]
    intro t ht
    rw [decide_eq_true_eq]
    exact (h.1 t (List.mem_range.1 ht)).2
theorem outAll_in {xs ys : List Int} (h : outAll xs ys = true) : (∀ t, 0 ≤ fl ys t) ∧ ys.length = xs.length ∧ ∀ t, t < xs.length → psum (fl ys) (t + 1) ≤ psum (fl xs) (t + 1) := by
  unfold outAll at h
  rw [Bool.and_eq_true, Bool.and_eq_true, decide_eq_true_eq, outF, List.all_eq_true, goneF, List.all_eq_true] at h
  refine ⟨fun t => ?_, h.1.2, fun t ht => ?_⟩
  · unfold fl
    by_cases ht : t < ys.length
    · have := h.1.1 (ys.getD t 0) (by rw [List.getD_eq_getElem?_getD, List.getElem?_eq_getElem ht]; exact List.getElem_mem _)
      rw [decide_eq_true_eq] at this
      exact this.1
    · rw [List.getD_eq_getElem?_getD, List.getElem?_eq_none (by omega)]
      decide
  · have := h.2 t (List.mem_range.2 ht)
    rw [decide_eq_true_eq] at this
    exact this
theorem delG_no {xs ys : List Int} (h : delF xs ys = false) : delG xs ys = 0 := by rw [delG, h]; rfl
theorem delG_yes {xs ys : List Int} (h : delF xs ys = true) : delG xs ys = wstU (fl xs) (fl ys) xs.length xs.length := by rw [delG, h]; rfl
theorem wstU_at (f o : Nat → Int) {n : Nat} : ∀ t, t ≤ n → 0 ≤ wstU f o n t ∧ wstU f o n t ≤ n
  | 0, _ => ⟨Int.le_refl _, by show (0 : Int) ≤ n; omega⟩
  | t + 1, h => by
    have ih := wstU_at f o (n := n) t (by omega)
    have h2 := (kOf_is o (psum f (t + 1)) n).1
    have h3 : dly f o n t ≤ n := by unfold dly; split <;> omega
    show 0 ≤ (if wstU f o n t > dly f o n t then wstU f o n t else dly f o n t) ∧ (if wstU f o n t > dly f o n t then wstU f o n t else dly f o n t) ≤ n
    split <;> omega
end Go.Proofs.Ytcieefggijjekaz
