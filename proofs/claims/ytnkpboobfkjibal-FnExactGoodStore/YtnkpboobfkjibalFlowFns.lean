/-
  Flows and buckets as the program's lists have them: plain words.
  Numbers that rise below a bound, spans that end below one: plain words.
  Plain facts on good spans. No program.
  Where the places of good spans below a bound lie. Plain facts.
  What the law of spans asks, in plain arithmetic. No program.
  Numbers that rise below a bound: each is below it. Plain facts.
-/
import Derived.Test.YtnkpboobfkjibalFlowMath
import Derived.Test.YtnkpboobfkjibalSpanMath
import Derived.Test.YtnkpboobfkjibalCutMath
namespace Go.Proofs.Ytnkpboobfkjibal

def rateB (r d : Int) : Bool := decide (1 ≤ r ∧ r ≤ 20) && decide (1 ≤ d ∧ d ≤ 60)
def flowB (xs : List Int) : Bool := decide (xs.length ≤ 40) && xs.all fun k => decide (0 ≤ k ∧ k ≤ 60)
/-- A list as a flow: nought behind its end. -/
def fl (xs : List Int) (t : Nat) : Int := xs.getD t 0
theorem flowB_len {xs : List Int} (h : flowB xs = true) : xs.length ≤ 40 := by
  unfold flowB at h
  rw [Bool.and_eq_true, decide_eq_true_eq] at h
  exact h.1
theorem flowB_in {xs : List Int} (h : flowB xs = true) (t : Nat) : 0 ≤ fl xs t ∧ fl xs t ≤ 60 := by
  unfold flowB at h
  rw [Bool.and_eq_true, List.all_eq_true] at h
  unfold fl
  by_cases ht : t < xs.length
  · have := h.2 (xs.getD t 0) (by rw [List.getD_eq_getElem?_getD, List.getElem?_eq_getElem ht]; exact List.getElem_mem _)
    rw [decide_eq_true_eq] at this
    exact this
  · rw [List.getD_eq_getElem?_getD, List.getElem?_eq_none (by omega)]
    decide
theorem rateB_in {r d : Int} (h : rateB r d = true) : (1 ≤ r ∧ r ≤ 20) ∧ (1 ≤ d ∧ d ≤ 60) := by
  unfold rateB at h
  rw [Bool.and_eq_true, decide_eq_true_eq, decide_eq_true_eq] at h
  exact h
/-- So many of what goes, and of what waits. -/
def goL (g : Nat → Int) (n : Nat) : List Int := (List.range n).map g
theorem goL_len (g : Nat → Int) (n : Nat) : (goL g n).length = n := by simp [goL]
theorem goL_succ (g : Nat → Int) (n : Nat) : goL g (n + 1) = goL g n ++ [g n] := by simp [goL, List.range_succ]
theorem goL_get {g : Nat → Int} {n i : Nat} (h : i < n) : (goL g n).getD i 0 = g i := by simp [goL, List.getD_eq_getElem?_getD, h]
theorem psum_in {f : Nat → Int} {b : Int} (h : ∀ i, 0 ≤ f i ∧ f i ≤ b) : ∀ n : Nat, 0 ≤ psum f n ∧ psum f n ≤ b * n
  | 0 => by simp [psum]
  | n + 1 => by
    have h1 := psum_in h n
    have h2 := h n
    simp only [psum]
    rw [show ((n + 1 : Nat) : Int) = (n : Int) + 1 by omega, Int.mul_add, Int.mul_one]
    omega
end Go.Proofs.Ytnkpboobfkjibal
namespace Go.Proofs.Ytnkpboobfkjibal

/-- Letters that rise, all below many: the first k. -/
def risU (l : List Int) (many : Int) : Nat → Bool
  | 0 => true
  | k + 1 => risU l many k && (decide (0 ≤ fl l k ∧ fl l k ≤ many - 1) && (decide (k = 0) || decide (fl l (k - 1) < fl l k)))
def risB (l : List Int) (many : Int) : Bool := risU l many l.length
theorem risU_no {l : List Int} {many : Int} {k : Nat} (h : risU l many k = false) : ∀ j, k ≤ j → risU l many j = false
  | 0, hj => by obtain rfl : k = 0 := by omega
                exact h
  | j + 1, hj => by
    by_cases e : k = j + 1
    · rw [← e]; exact h
    · simp only [risU]; rw [risU_no h j (by omega)]; rfl
def lastTo (l : List Sp) : Int := (l.getD (l.length - 1) (0, 0)).2
def belB (l : List Sp) (many : Int) : Bool := goodL l && (decide (l.length = 0) || decide (lastTo l ≤ many))
end Go.Proofs.Ytnkpboobfkjibal
namespace Go.Proofs.Ytnkpboobfkjibal

theorem good_chain {xs : List Sp} (h : goodL xs = true) : chainB (-1) xs = true := by
  unfold goodL at h
  rw [Bool.and_eq_true] at h
  exact h.1
theorem good_len {xs : List Sp} (h : goodL xs = true) : xs.length ≤ 20 := by
  unfold goodL at h
  rw [Bool.and_eq_true] at h
  simpa using h.2
end Go.Proofs.Ytnkpboobfkjibal
namespace Go.Proofs.Ytnkpboobfkjibal

theorem chain_spot : ∀ {p : Int} {l : List Sp}, chainB p l = true → ∀ k, k < l.length → (p < (l.getD k (0, 0)).1 ∧ spB (l.getD k (0, 0)) = true) ∧ (l.getD k (0, 0)).2 ≤ (l.getD (l.length - 1) (0, 0)).2
  | p, [], _, k, hk => by simp at hk
  | p, x :: l, h, k, hk => by
    rw [chain_cons] at h
    have hx := (spB_iff x).1 h.2.1
    rcases k with _ | k
    · refine ⟨⟨h.1, h.2.1⟩, ?_⟩
      rcases l with _ | ⟨y, l⟩
      · simp
      · have h2 := chain_spot h.2.2 ((y :: l).length - 1) (by simp)
        have h3 := (spB_iff _).1 h2.1.2
        have e : (x :: y :: l).getD ((x :: y :: l).length - 1) (0, 0) = (y :: l).getD ((y :: l).length - 1) (0, 0) := by simp
        rw [e]
        show x.2 ≤ _
        omega
    · have hk' : k < l.length := by simpa using hk
      have h2 := chain_spot h.2.2 k hk'
      have e : (x :: l).getD ((x :: l).length - 1) (0, 0) = l.getD (l.length - 1) (0, 0) := by
        rcases l with _ | ⟨y, l⟩
        · simp at hk'
        · simp
      rw [e]
      refine ⟨⟨?_, h2.1.2⟩, h2.2⟩
      show p < (l.getD k (0, 0)).1
      omega
/-- Where the letters of good spans below many lie. -/
theorem bel_has {l : List Sp} {z : Int} (h : belB l z = true) {x : Int} (hx : hasL l x = true) : 0 ≤ x ∧ x < z := by
  unfold belB at h
  rw [Bool.and_eq_true, Bool.or_eq_true, decide_eq_true_eq, decide_eq_true_eq] at h
  have key : ∀ m : List Sp, hasL m x = true → ∃ k, k < m.length ∧ inB (m.getD k (0, 0)) x = true := by
    intro m
    induction m with
    | nil => intro h; cases h
    | cons y m ih =>
      intro h
      have h' : (inB y x || hasL m x) = true := h
      rw [Bool.or_eq_true] at h'
      rcases h' with h' | h'
      · exact ⟨0, by simp, h'⟩
      · obtain ⟨k, hk, e⟩ := ih h'
        exact ⟨k + 1, by simpa using hk, e⟩
  obtain ⟨k, hk, e⟩ := key l hx
  rw [inB_iff] at e
  have h1 := chain_spot (good_chain h.1) k hk
  have h2 := (spB_iff _).1 h1.1.2
  have h3 : lastTo l ≤ z := h.2.resolve_left (by omega)
  unfold lastTo at h3
  omega
theorem chain_last {p : Int} {l : List Sp} (h : chainB p l = true) (h0 : l.length ≠ 0) : hasL l (lastTo l - 1) = true := by
  have h1 := chain_spot h (l.length - 1) (by omega)
  have h2 := (spB_iff _).1 h1.1.2
  have key : ∀ (m : List Sp) k, k < m.length → ∀ x, inB (m.getD k (0, 0)) x = true → hasL m x = true := by
    intro m
    induction m with
    | nil => intro k hk; simp at hk
    | cons y m ih =>
      intro k hk x hx
      show (inB y x || hasL m x) = true
      rcases k with _ | k
      · rw [Bool.or_eq_true]; exact .inl hx
      · rw [Bool.or_eq_true]; exact .inr (ih k (by simpa using hk) x hx)
  refine key l (l.length - 1) (by omega) _ ?_
  rw [inB_iff]
  unfold lastTo
  omega
end Go.Proofs.Ytnkpboobfkjibal
namespace Go.Proofs.Ytnkpboobfkjibal

theorem good_mk {l : List Sp} (h : chainB (-1) l = true) (hl : l.length ≤ 20) : goodL l = true := by
  unfold goodL
  rw [h, Bool.true_and]
  simpa using hl
theorem len_sum {a b : List Sp} (ha : chainB (-1) a = true) (hb : chainB (-1) b = true) : lenL (joinL a b) + lenL (meetL a b) = lenL a + lenL b := by
  rw [← len_cnt (joinL_chain ha hb) (by omega), ← len_cnt (meetL_chain ha hb) (by omega), ← len_cnt ha (by omega), ← len_cnt hb (by omega)]
  rw [cnt_congr (hasL (joinL a b)) (fun n => hasL a n || hasL b n) _ _ (fun n _ _ => joinL_has ha hb n), cnt_congr (hasL (meetL a b)) (fun n => hasL a n && hasL b n) _ _ (fun n _ _ => meetL_has a b n)]
  exact cnt_both _ _ _ _
theorem cut_add {t : List Sp} {s : Sp} (ht : chainB (-1) t = true) (hs : spB s = true) : cutF (addL t s) s = cutF t s := by
  have hs' := (spB_iff s).1 hs
  have ha := addL_chain ht hs (by omega)
  refine canon (cutF_chain ha hs'.2.1) (cutF_chain ht hs'.2.1) fun n => ?_
  rw [cutF_has _ _ hs'.2.1, cutF_has _ _ hs'.2.1, addL_has ht hs'.2.1]
  cases hasL t n <;> cases inB s n <;> rfl
end Go.Proofs.Ytnkpboobfkjibal
namespace Go.Proofs.Ytnkpboobfkjibal

theorem risU_in {l : List Int} {many : Int} : ∀ k, risU l many k = true → ∀ i, i < k → 0 ≤ fl l i ∧ fl l i ≤ many - 1
  | 0, _, i, hi => by omega
  | k + 1, h, i, hi => by
    have h' : (risU l many k && (decide (0 ≤ fl l k ∧ fl l k ≤ many - 1) && (decide (k = 0) || decide (fl l (k - 1) < fl l k)))) = true := h
    rw [Bool.and_eq_true, Bool.and_eq_true, decide_eq_true_eq] at h'
    by_cases e : i = k
    · subst e; exact h'.2.1
    · exact risU_in k h'.1 i (by omega)
theorem risB_mem {l : List Int} {many : Int} (h : risB l many = true) (x : Int) (hx : x ∈ l) : 0 ≤ x ∧ x ≤ many - 1 := by
  obtain ⟨i, hi, rfl⟩ := List.getElem_of_mem hx
  have := risU_in l.length h i hi
  rw [show fl l i = l[i] by show l.getD i 0 = _; simp [List.getD_eq_getElem?_getD, hi]] at this
  exact this
end Go.Proofs.Ytnkpboobfkjibal
