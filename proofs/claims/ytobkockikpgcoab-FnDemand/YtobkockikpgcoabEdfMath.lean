/-
  Jobs as three numbers: which are good, what a while demands, the nearest end first, what is late; all can be in time just if no while has too much. Plain arithmetic, no program.
-/
import Derived.Test.YtobkockikpgcoabEdfSums
namespace Go.Proofs.Ytobkockikpgcoab

def jobB (x : JbEl) : Bool := decide (0 ≤ x.1 ∧ x.1 ≤ 23) && (decide (1 ≤ x.2.1 ∧ x.2.1 ≤ 6) && decide (x.1 + 1 ≤ x.2.2 ∧ x.2.2 ≤ 24))
def goodJ (l : List JbEl) : Bool := l.all jobB && decide (l.length ≤ 8)
theorem goodJ_len {l : List JbEl} (h : goodJ l = true) : l.length ≤ 8 := by
  unfold goodJ at h
  rw [Bool.and_eq_true] at h
  simpa using h.2
theorem jobB_in {x : JbEl} (h : jobB x = true) : (0 ≤ x.1 ∧ x.1 ≤ 23) ∧ (1 ≤ x.2.1 ∧ x.2.1 ≤ 6) ∧ (x.1 < x.2.2 ∧ x.2.2 ≤ 24) := by
  unfold jobB at h
  rw [Bool.and_eq_true, Bool.and_eq_true] at h
  simp only [decide_eq_true_eq] at h
  omega
theorem goodJ_at {l : List JbEl} (h : goodJ l = true) (k : Nat) (hk : k < l.length) : jobB (l.getD k (0, 0, 0)) = true := by
  unfold goodJ at h
  rw [Bool.and_eq_true, List.all_eq_true] at h
  exact h.1 _ (by simp [List.getD_eq_getElem?_getD, hk])
theorem jall_take (l : List JbEl) (k : Nat) (hk : k < l.length) : (l.take (k + 1)).all jobB = ((l.take k).all jobB && jobB (l.getD k (0, 0, 0))) := by
  rw [List.take_succ_eq_append_getElem hk, List.all_append]
  simp [List.getD_eq_getElem?_getD, hk]
theorem jall_false {l : List JbEl} (k : Nat) (hk : k < l.length) (h : jobB (l.getD k (0, 0, 0)) = false) : l.all jobB = false := by
  rw [← Bool.not_eq_true, List.all_eq_true]
  intro hh
  have := hh (l.getD k (0, 0, 0)) (by simp [List.getD_eq_getElem?_getD, hk])
  rw [h] at this
  cases this

/-- What one adds to the demand of a while. -/
def need1 (f t : Int) (x : JbEl) : Int := if f ≤ x.1 ∧ x.2.2 ≤ t then x.2.1 else 0
def demU (f t : Int) (l : List JbEl) (k : Nat) : Int := sumU (fun j => need1 f t (l.getD j (0, 0, 0))) k
def dem (f t : Int) (l : List JbEl) : Int := demU f t l l.length
theorem demU_succ (f t : Int) (l : List JbEl) (k : Nat) : demU f t l (k + 1) = demU f t l k + need1 f t (l.getD k (0, 0, 0)) := rfl
theorem demU_bounds {f t : Int} {l : List JbEl} (h : goodJ l = true) (k : Nat) (hk : k ≤ l.length) : 0 ≤ demU f t l k ∧ demU f t l k ≤ 6 * k := by
  induction k with
  | zero => exact ⟨Int.le_refl _, by show (0 : Int) ≤ _; omega⟩
  | succ k ih =>
    have h1 := ih (by omega)
    have h2 := jobB_in (goodJ_at h k (by omega))
    rw [demU_succ]
    unfold need1
    split <;> omega
def overB (l : List JbEl) (f t : Int) : Bool := decide (t - f < dem f t l)

/-- The nearest end among the first k that can have a slot: its number, -1 for none. -/
def canHave (slot : Int) (x : JbEl) : Bool := decide (x.1 ≤ slot) && decide (x.2.1 ≠ 0)
def nearU (l : List JbEl) (slot : Int) : Nat → Int
  | 0 => -1
  | k + 1 => if (canHave slot (l.getD k (0, 0, 0)) && (decide (nearU l slot k < 0) || decide ((l.getD k (0, 0, 0)).2.2 < (l.getD (nearU l slot k).toNat (0, 0, 0)).2.2))) = true then (k : Int) else nearU l slot k
def near (l : List JbEl) (slot : Int) : Int := nearU l slot l.length
theorem nearU_range (l : List JbEl) (slot : Int) (k : Nat) : -1 ≤ nearU l slot k ∧ nearU l slot k < k := by
  induction k with
  | zero => exact ⟨Int.le_refl _, by show (-1 : Int) < _; omega⟩
  | succ k ih =>
    unfold nearU
    split <;> omega
theorem nearU_can (l : List JbEl) (slot : Int) (k : Nat) (h : 0 ≤ nearU l slot k) : canHave slot (l.getD (nearU l slot k).toNat (0, 0, 0)) = true := by
  induction k with
  | zero => exact absurd h (by show ¬ (0 : Int) ≤ -1; omega)
  | succ k ih =>
    unfold nearU at h ⊢
    split
    · rename_i hc
      rw [Bool.and_eq_true] at hc
      simpa using hc.1
    · rename_i hc
      rw [if_neg hc] at h
      exact ih h
theorem nearU_best (l : List JbEl) (slot : Int) (k : Nat) (j : Nat) (hj : j < k) (hc : canHave slot (l.getD j (0, 0, 0)) = true) :
    0 ≤ nearU l slot k ∧ (l.getD (nearU l slot k).toNat (0, 0, 0)).2.2 ≤ (l.getD j (0, 0, 0)).2.2 := by
  induction k with
  | zero => omega
  | succ k ih =>
    have hr := nearU_range l slot k
    unfold nearU
    by_cases e : j = k
    · subst e
      rw [hc, Bool.true_and]
      split
      · simp
      · rename_i h
        rw [Bool.or_eq_true, decide_eq_true_eq, decide_eq_true_eq] at h
        omega
    · have h1 := ih (by omega)
      split
      · rename_i h
        rw [Bool.and_eq_true, Bool.or_eq_true, decide_eq_true_eq, decide_eq_true_eq] at h
        obtain ⟨_, h⟩ := h
        refine ⟨by omega, ?_⟩
        rw [Int.toNat_natCast]
        omega
      · exact h1
def dec1 (x : JbEl) : JbEl := (x.1, x.2.1 - 1, x.2.2)
def takeAt (l : List JbEl) (b : Int) : List JbEl := if b < 0 then l else l.set b.toNat (dec1 (l.getD b.toNat (0, 0, 0)))
theorem length_takeAt (l : List JbEl) (b : Int) : (takeAt l b).length = l.length := by unfold takeAt; split <;> simp
/-- What is left of each when n slots are over. -/
def leftA (l : List JbEl) : Nat → List JbEl
  | 0 => l
  | n + 1 => takeAt (leftA l n) (near (leftA l n) n)
theorem length_leftA (l : List JbEl) (n : Nat) : (leftA l n).length = l.length := by
  induction n with
  | zero => rfl
  | succ n ih => show (takeAt _ _).length = _; rw [length_takeAt, ih]
def slotA (l : List JbEl) (n : Nat) : Int := near (leftA l n) n
def earl (l : List JbEl) (n : Nat) : List Int := (List.range n).map (slotA l)
theorem length_earl (l : List JbEl) (n : Nat) : (earl l n).length = n := by simp [earl]
theorem earl_succ (l : List JbEl) (n : Nat) : earl l (n + 1) = earl l n ++ [slotA l n] := by simp [earl, List.range_succ]
theorem earl_get (l : List JbEl) (n i : Nat) (h : i < n) : (earl l n).getD i 0 = slotA l i := by simp [earl, List.getD_eq_getElem?_getD, h]
theorem slotA_range (l : List JbEl) (n : Nat) : -1 ≤ slotA l n ∧ slotA l n < l.length := by
  have := nearU_range (leftA l n) n (leftA l n).length
  rw [length_leftA] at this
  unfold slotA near
  rw [length_leftA]
  exact this
theorem getD_set (l : List JbEl) (i j : Nat) (x : JbEl) (hi : i < l.length) : (l.set i x).getD j (0, 0, 0) = if j = i then x else l.getD j (0, 0, 0) := by
  simp only [List.getD_eq_getElem?_getD, List.getElem?_set]
  by_cases h : i = j
  · subst h; simp [hi]
  · rw [if_neg h, if_neg (fun e => h e.symm)]
theorem leftA_get (l : List JbEl) (n j : Nat) (_hj : j < l.length) : (leftA l n).getD j (0, 0, 0) = ((l.getD j (0, 0, 0)).1, (l.getD j (0, 0, 0)).2.1 - cS (slotA l) j n, (l.getD j (0, 0, 0)).2.2) := by
  induction n with
  | zero => show l.getD j (0, 0, 0) = _; simp [cS]
  | succ n ih =>
    have hr := slotA_range l n
    show (takeAt (leftA l n) (slotA l n)).getD j _ = _
    show _ = (_, _ - (cS (slotA l) j n + _), _)
    unfold takeAt
    split
    · rw [ih, if_neg (by omega)]; simp
    · rw [getD_set _ _ _ _ (by rw [length_leftA]; omega)]
      split
      · rename_i h1 h2
        rw [← h2, ih, if_pos (by omega)]
        unfold dec1
        simp only [Prod.mk.injEq, true_and, and_true]
        omega
      · rename_i h1 h2
        rw [ih, if_neg (by omega)]; simp
theorem slotA_come (l : List JbEl) (u j : Nat) (hj : j < l.length) (e : slotA l u = (j : Int)) : (l.getD j (0, 0, 0)).1 ≤ u ∧ (l.getD j (0, 0, 0)).2.1 - cS (slotA l) j u ≠ 0 := by
  have h := nearU_can (leftA l u) u (leftA l u).length (by show 0 ≤ slotA l u; omega)
  have e2 : nearU (leftA l u) u (leftA l u).length = (j : Int) := e
  rw [e2, Int.toNat_natCast, leftA_get l u j hj] at h
  unfold canHave at h
  simpa using h
theorem cS_le_need {l : List JbEl} (hg : goodJ l = true) (u j : Nat) (hj : j < l.length) : cS (slotA l) j u ≤ (l.getD j (0, 0, 0)).2.1 := by
  induction u with
  | zero => have := jobB_in (goodJ_at hg j hj); show (0 : Int) ≤ _; omega
  | succ u ih =>
    show cS (slotA l) j u + _ ≤ _
    split
    · rename_i e
      have := slotA_come l u j hj e
      omega
    · omega
theorem slotA_best {l : List JbEl} (u j : Nat) (hj : j < l.length) (hs : (l.getD j (0, 0, 0)).1 ≤ u) (hc : cS (slotA l) j u < (l.getD j (0, 0, 0)).2.1) :
    ∃ b, b < l.length ∧ slotA l u = (b : Int) ∧ (l.getD b (0, 0, 0)).2.2 ≤ (l.getD j (0, 0, 0)).2.2 := by
  have h := nearU_best (leftA l u) u (leftA l u).length j (by rw [length_leftA]; exact hj) (by
    rw [leftA_get l u j hj]
    unfold canHave
    rw [Bool.and_eq_true, decide_eq_true_eq, decide_eq_true_eq]
    exact ⟨hs, by show _ - _ ≠ _; omega⟩)
  have hr := slotA_range l u
  have e : nearU (leftA l u) u (leftA l u).length = slotA l u := rfl
  rw [e] at h
  obtain ⟨h1, h2⟩ := h
  refine ⟨(slotA l u).toNat, by omega, by omega, ?_⟩
  rw [leftA_get l u j hj, leftA_get l u _ (by omega)] at h2
  exact h2

/-- How often k stands among the first n of a list of slots. -/
def sl (s : List Int) (t : Nat) : Int := s.getD t 0
def lateB (l : List JbEl) (s : List Int) (k : Nat) : Bool := decide (cS (sl s) k (l.getD k (0, 0, 0)).2.2.toNat < (l.getD k (0, 0, 0)).2.1)
def lateU (l : List JbEl) (s : List Int) : Nat → List Int
  | 0 => []
  | k + 1 => if lateB l s k = true then lateU l s k ++ [(k : Int)] else lateU l s k
def lateL (l : List JbEl) (s : List Int) : List Int := lateU l s l.length
theorem length_lateU (l : List JbEl) (s : List Int) (k : Nat) : (lateU l s k).length ≤ k := by
  induction k with
  | zero => exact Nat.le_refl _
  | succ k ih =>
    unfold lateU
    split
    · rw [List.length_append]; simp only [List.length_cons, List.length_nil]; omega
    · omega
theorem lateU_nil (l : List JbEl) (s : List Int) (k : Nat) : lateU l s k = [] ↔ ∀ j, j < k → lateB l s j = false := by
  induction k with
  | zero => exact ⟨fun _ j h => by omega, fun _ => rfl⟩
  | succ k ih =>
    unfold lateU
    cases h : lateB l s k with
    | true => simp; exact ⟨k, by omega, h⟩
    | false =>
      rw [if_neg (by simp), ih]
      constructor
      · intro hh j hj
        by_cases e : j = k
        · rw [e]; exact h
        · exact hh j (by omega)
      · intro hh j hj
        exact hh j (by omega)
theorem cS_congr {s s' : Nat → Int} (j n : Nat) (h : ∀ u, u < n → s u = s' u) : cS s j n = cS s' j n := by
  induction n with
  | zero => rfl
  | succ n ih =>
    show cS s j n + _ = cS s' j n + _
    rw [ih (fun u hu => h u (by omega)), h n (by omega)]
def meetB (l : List JbEl) : Bool := decide (lateL l (earl l 24) = [])
theorem meetB_iff {l : List JbEl} (hg : goodJ l = true) : meetB l = true ↔ ∀ k, k < l.length → (l.getD k (0, 0, 0)).2.1 ≤ cS (slotA l) k (l.getD k (0, 0, 0)).2.2.toNat := by
  unfold meetB lateL
  rw [decide_eq_true_eq, lateU_nil]
  have hh : ∀ k, k < l.length → (lateB l (earl l 24) k = false ↔ (l.getD k (0, 0, 0)).2.1 ≤ cS (slotA l) k (l.getD k (0, 0, 0)).2.2.toNat) := by
    intro k hk
    have hj := jobB_in (goodJ_at hg k hk)
    unfold lateB
    rw [decide_eq_false_iff_not, cS_congr (s := sl (earl l 24)) (s' := slotA l) k _ (fun u hu => earl_get l 24 u (by omega))]
    omega
  exact ⟨fun h k hk => (hh k hk).1 (h k hk), fun h k hk => (hh k hk).2 (h k hk)⟩
/-- All can be in time just if in no while there is more to be done than it is long. -/
theorem meet_iff {l : List JbEl} (hg : goodJ l = true) : meetB l = true ↔ ∀ f t : Nat, f < t → t ≤ 24 → overB l f t = false := by
  rw [meetB_iff hg]
  constructor
  · intro h f t hft ht
    unfold overB
    rw [decide_eq_false_iff_not]
    have := no_over (n := l.length) (s := slotA l) (st := fun j => (l.getD j (0, 0, 0)).1) (nd := fun j => (l.getD j (0, 0, 0)).2.1) (en := fun j => (l.getD j (0, 0, 0)).2.2)
      (fun u j hj e => (slotA_come l u j hj e).1) (fun j => (l.getD j (0, 0, 0)).2.2.toNat)
      (fun j hj => by have := jobB_in (goodJ_at hg j hj); show _ = _; omega) (fun j hj => h j hj) f t (by omega)
    unfold dem demU need1
    omega
  · intro h k hk
    apply Classical.byContradiction
    intro hc
    have hb := jobB_in (goodJ_at hg k hk)
    obtain ⟨f, hf, ho⟩ := over_of_late (n := l.length) (s := slotA l) (st := fun j => (l.getD j (0, 0, 0)).1) (nd := fun j => (l.getD j (0, 0, 0)).2.1) (en := fun j => (l.getD j (0, 0, 0)).2.2)
      (fun j hj => (jobB_in (goodJ_at hg j hj)).1.1) (fun u j hj e => (slotA_come l u j hj e).1) (fun u j hj => cS_le_need hg u j hj) (fun u j hj h1 h2 => slotA_best u j hj h1 h2)
      k (l.getD k (0, 0, 0)).2.2.toNat hk (by show _ = _; omega) (by show _ < _; omega) (by show _ < _; omega)
    have := h f (l.getD k (0, 0, 0)).2.2.toNat hf (by omega)
    unfold overB at this
    rw [decide_eq_false_iff_not] at this
    unfold dem demU need1 at this
    exact this ho
end Go.Proofs.Ytobkockikpgcoab
