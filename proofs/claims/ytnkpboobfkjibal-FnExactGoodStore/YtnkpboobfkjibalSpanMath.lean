/-
  Spans as lists of pairs: what is in them, that a list of spans is known by what is in it, joins, meets, what is missing, lengths. Plain arithmetic, no program.
-/
import Derived.WalkKit
namespace Go.Proofs.Ytnkpboobfkjibal

/-- A span: from, to. -/
abbrev Sp := Int × Int
def spB (x : Sp) : Bool := decide (0 ≤ x.1) && decide (x.1 < x.2) && decide (x.2 ≤ 1000000)
/-- Spans by rising from, all behind p, with something between. -/
def chainB : Int → List Sp → Bool
  | _, [] => true
  | p, x :: l => decide (p < x.1) && spB x && chainB x.2 l
def goodL (l : List Sp) : Bool := chainB (-1) l && decide (l.length ≤ 20)
def inB (x : Sp) (n : Int) : Bool := decide (x.1 ≤ n) && decide (n < x.2)
def hasL : List Sp → Int → Bool
  | [], _ => false
  | x :: l, n => inB x n || hasL l n
def lenL : List Sp → Int
  | [] => 0
  | x :: l => (x.2 - x.1) + lenL l

theorem spB_iff (x : Sp) : spB x = true ↔ 0 ≤ x.1 ∧ x.1 < x.2 ∧ x.2 ≤ 1000000 := by
  unfold spB; simp only [Bool.and_eq_true, decide_eq_true_eq, and_assoc]
theorem inB_iff (x : Sp) (n : Int) : inB x n = true ↔ x.1 ≤ n ∧ n < x.2 := by
  unfold inB; simp only [Bool.and_eq_true, decide_eq_true_eq]
theorem chain_cons (p : Int) (x : Sp) (l : List Sp) : chainB p (x :: l) = true ↔ p < x.1 ∧ spB x = true ∧ chainB x.2 l = true := by
  simp only [chainB, Bool.and_eq_true, decide_eq_true_eq, and_assoc]
theorem chain_mono {p q : Int} {l : List Sp} (h : chainB p l = true) (hq : q ≤ p) : chainB q l = true := by
  cases l with
  | nil => rfl
  | cons x l =>
    rw [chain_cons] at h ⊢
    exact ⟨by omega, h.2⟩
theorem has_le {p : Int} {l : List Sp} (h : chainB p l = true) {n : Int} (hn : n ≤ p) : hasL l n = false := by
  induction l generalizing p with
  | nil => rfl
  | cons x l ih =>
    rw [chain_cons, spB_iff] at h
    have hx : inB x n = false := by
      cases e : inB x n with
      | false => rfl
      | true => rw [inB_iff] at e; omega
    simp only [hasL, hx, Bool.false_or]
    exact ih h.2.2 (by omega)
theorem has_bounds {p : Int} {l : List Sp} (h : chainB p l = true) {n : Int} (hn : hasL l n = true) : p < n ∧ 0 ≤ n ∧ n < 1000000 := by
  induction l generalizing p with
  | nil => cases hn
  | cons x l ih =>
    rw [chain_cons, spB_iff] at h
    simp only [hasL, Bool.or_eq_true, inB_iff] at hn
    rcases hn with hn | hn
    · omega
    · have := ih h.2.2 hn
      omega

/-- A list of spans is known by what is in it. -/
theorem canon {p q : Int} {l m : List Sp} (hl : chainB p l = true) (hm : chainB q m = true) (h : ∀ n, hasL l n = hasL m n) : l = m := by
  induction l generalizing m p q with
  | nil =>
    cases m with
    | nil => rfl
    | cons y m =>
      exfalso
      rw [chain_cons, spB_iff] at hm
      have := h y.1
      have e : inB y y.1 = true := (inB_iff y y.1).2 (by omega)
      simp [hasL, e] at this
  | cons x l ih =>
    rw [chain_cons, spB_iff] at hl
    cases m with
    | nil =>
      exfalso
      have := h x.1
      have e : inB x x.1 = true := (inB_iff x x.1).2 (by omega)
      simp [hasL, e] at this
    | cons y m =>
      rw [chain_cons, spB_iff] at hm
      have before : ∀ (z : Sp) (t : List Sp) (n : Int), chainB z.2 t = true → z.1 < z.2 → n < z.1 → hasL (z :: t) n = false := fun z t n hc hz hn => by
        have e : inB z n = false := by
          cases e : inB z n with
          | false => rfl
          | true => rw [inB_iff] at e; omega
        simp only [hasL, e, Bool.false_or]
        exact has_le hc (by omega)
      have first : ∀ (z : Sp) (t : List Sp) (n : Int), z.1 ≤ n → n < z.2 → hasL (z :: t) n = true := fun z t n h1 h2 => by
        simp only [hasL, (inB_iff z n).2 ⟨h1, h2⟩, Bool.true_or]
      have at_end : ∀ (z : Sp) (t : List Sp), chainB z.2 t = true → hasL (z :: t) z.2 = false := fun z t hc => by
        have e : inB z z.2 = false := by
          cases e : inB z z.2 with
          | false => rfl
          | true => rw [inB_iff] at e; omega
        simp only [hasL, e, Bool.false_or]
        exact has_le hc (by omega)
      have e1 : x.1 = y.1 := by
        rcases (by omega : x.1 < y.1 ∨ y.1 < x.1 ∨ x.1 = y.1) with a | a | a
        · have := h x.1; rw [first x l _ (by omega) (by omega), before y m _ hm.2.2 (by omega) a] at this; cases this
        · have := h y.1; rw [first y m _ (by omega) (by omega), before x l _ hl.2.2 (by omega) a] at this; cases this
        · exact a
      have e2 : x.2 = y.2 := by
        rcases (by omega : x.2 < y.2 ∨ y.2 < x.2 ∨ x.2 = y.2) with a | a | a
        · have := h x.2; rw [at_end x l hl.2.2, first y m _ (by omega) a] at this; cases this
        · have := h y.2; rw [at_end y m hm.2.2, first x l _ (by omega) a] at this; cases this
        · exact a
      have hxy : x = y := Prod.ext e1 e2
      subst hxy
      rw [ih hl.2.2 hm.2.2 fun n => ?_]
      by_cases hn : n ≤ x.2
      · rw [has_le hl.2.2 hn, has_le hm.2.2 hn]
      · have := h n
        have e : inB x n = false := by
          cases e : inB x n with
          | false => rfl
          | true => rw [inB_iff] at e; omega
        simpa only [hasL, e, Bool.false_or] using this

/-! Counting -/
def cnt (f : Int → Bool) : Int → Nat → Int
  | _, 0 => 0
  | lo, k + 1 => (if f lo = true then 1 else 0) + cnt f (lo + 1) k
theorem cnt_split (f : Int → Bool) : ∀ (a : Nat) (lo : Int) (b : Nat), cnt f lo (a + b) = cnt f lo a + cnt f (lo + a) b
  | 0, lo, b => by simp [cnt]
  | a + 1, lo, b => by
    rw [show a + 1 + b = (a + b) + 1 by omega]
    simp only [cnt]
    rw [cnt_split f a (lo + 1) b, show lo + 1 + (a : Int) = lo + ((a + 1 : Nat) : Int) by omega]
    omega
theorem cnt_none (f : Int → Bool) : ∀ (k : Nat) (lo : Int), (∀ n, lo ≤ n → n < lo + k → f n = false) → cnt f lo k = 0
  | 0, _, _ => rfl
  | k + 1, lo, h => by
    simp only [cnt]
    rw [h lo (by omega) (by omega), cnt_none f k (lo + 1) (fun n a b => h n (by omega) (by omega))]
    rfl
theorem cnt_all (f : Int → Bool) : ∀ (k : Nat) (lo : Int), (∀ n, lo ≤ n → n < lo + k → f n = true) → cnt f lo k = k
  | 0, _, _ => rfl
  | k + 1, lo, h => by
    simp only [cnt]
    rw [h lo (by omega) (by omega), cnt_all f k (lo + 1) (fun n a b => h n (by omega) (by omega))]
    simp only [if_true]
    omega
theorem cnt_congr (f g : Int → Bool) : ∀ (k : Nat) (lo : Int), (∀ n, lo ≤ n → n < lo + k → f n = g n) → cnt f lo k = cnt g lo k
  | 0, _, _ => rfl
  | k + 1, lo, h => by
    simp only [cnt]
    rw [h lo (by omega) (by omega), cnt_congr f g k (lo + 1) (fun n a b => h n (by omega) (by omega))]
theorem cnt_both (f g : Int → Bool) : ∀ (k : Nat) (lo : Int), cnt (fun n => f n || g n) lo k + cnt (fun n => f n && g n) lo k = cnt f lo k + cnt g lo k
  | 0, _ => rfl
  | k + 1, lo => by
    have := cnt_both f g k (lo + 1)
    simp only [cnt]
    rcases Bool.eq_false_or_eq_true (f lo) with hf | hf <;> rcases Bool.eq_false_or_eq_true (g lo) with hg | hg <;> simp [hf, hg] <;> omega
theorem len_cnt {p : Int} {l : List Sp} (h : chainB p l = true) (hp : p ≤ 1000000) : cnt (hasL l) p (1000000 - p).toNat = lenL l := by
  induction l generalizing p with
  | nil => exact cnt_none _ _ _ (fun _ _ _ => rfl)
  | cons x l ih =>
    rw [chain_cons, spB_iff] at h
    obtain ⟨h1, ⟨h2, h3, h4⟩, h5⟩ := h
    have e : (1000000 - p).toNat = (x.1 - p).toNat + ((x.2 - x.1).toNat + (1000000 - x.2).toNat) := by omega
    rw [e, cnt_split, cnt_split]
    rw [cnt_none _ _ _ (fun n a b => by
      have e : inB x n = false := by
        cases e : inB x n with
        | false => rfl
        | true => rw [inB_iff] at e; omega
      simp only [hasL, e, Bool.false_or]
      exact has_le h5 (by omega))]
    rw [show p + ((x.1 - p).toNat : Int) = x.1 by omega, show x.1 + ((x.2 - x.1).toNat : Int) = x.2 by omega]
    rw [cnt_all _ _ _ (fun n a b => by simp only [hasL, (inB_iff x n).2 (by omega), Bool.true_or])]
    rw [cnt_congr (hasL (x :: l)) (hasL l) _ _ (fun n a b => by
      have e : inB x n = false := by
        cases e : inB x n with
        | false => rfl
        | true => rw [inB_iff] at e; omega
      simp only [hasL, e, Bool.false_or]), ih h5 (by omega)]
    simp only [lenL]
    omega
theorem len_bounds {p : Int} {l : List Sp} (h : chainB p l = true) (hp : -1 ≤ p) : 0 ≤ lenL l ∧ lenL l ≤ 1000000 ∧ (l ≠ [] → lenL l + p + 1 ≤ 1000000) := by
  induction l generalizing p with
  | nil => simp [lenL]
  | cons x l ih =>
    rw [chain_cons, spB_iff] at h
    obtain ⟨i1, i2, i3⟩ := ih h.2.2 (by omega)
    simp only [lenL]
    by_cases hl : l = []
    · subst hl; simp only [lenL]; omega
    · have := i3 hl; omega

/-! The functions of the document, as they are written -/
def addM : List Sp → Sp → List Sp
  | [], x => [x]
  | y :: l, x => if y.1 ≤ x.2 then addM l (min x.1 y.1, max x.2 y.2) else x :: y :: l
def addL : List Sp → Sp → List Sp
  | [], x => [x]
  | y :: l, x => if y.2 < x.1 then y :: addL l x else addM (y :: l) x
def joinL (a : List Sp) : List Sp → List Sp
  | [] => a
  | x :: b => joinL (addL a x) b
def meetOne (x : Sp) : List Sp → List Sp
  | [] => []
  | y :: b => if max x.1 y.1 < min x.2 y.2 then (max x.1 y.1, min x.2 y.2) :: meetOne x b else meetOne x b
def meetL : List Sp → List Sp → List Sp
  | [], _ => []
  | x :: a, b => meetOne x b ++ meetL a b
def missF (u : Int) : Int → List Sp → List Sp
  | p, [] => if p < u then [(p, u)] else []
  | p, x :: l => if u ≤ x.1 then (if p < u then [(p, u)] else []) else if p < x.1 then (p, x.1) :: missF u x.2 l else missF u x.2 l
def missL (l : List Sp) (u : Int) : List Sp := missF u 0 l

theorem has_append (a b : List Sp) (n : Int) : hasL (a ++ b) n = (hasL a n || hasL b n) := by
  induction a with
  | nil => simp [hasL]
  | cons x a ih => simp only [List.cons_append, hasL, ih, Bool.or_assoc]

theorem addM_chain {p : Int} {l : List Sp} {x : Sp} (h : chainB p l = true) (hx : spB x = true) (hp : p < x.1) : chainB p (addM l x) = true := by
  induction l generalizing x with
  | nil => simp only [addM]; rw [chain_cons]; exact ⟨hp, hx, rfl⟩
  | cons y l ih =>
    rw [chain_cons] at h
    have hy := (spB_iff y).1 h.2.1
    have hx' := (spB_iff x).1 hx
    simp only [addM]
    split
    · refine ih (chain_mono h.2.2 (by omega)) ((spB_iff _).2 ?_) ?_
      · simp only; omega
      · simp only; omega
    · rw [chain_cons, chain_cons]
      exact ⟨hp, hx, by omega, h.2.1, h.2.2⟩
theorem addL_chain {p : Int} {l : List Sp} {x : Sp} (h : chainB p l = true) (hx : spB x = true) (hp : p < x.1) : chainB p (addL l x) = true := by
  induction l generalizing p with
  | nil => simp only [addL]; rw [chain_cons]; exact ⟨hp, hx, rfl⟩
  | cons y l ih =>
    simp only [addL]
    split
    · rw [chain_cons] at h ⊢
      exact ⟨h.1, h.2.1, ih h.2.2 (by omega)⟩
    · exact addM_chain h hx hp
theorem addM_has {p : Int} {l : List Sp} {x : Sp} (h : chainB p l = true) (hx : x.1 < x.2) (hh : ∀ y ∈ l.head?, x.1 ≤ y.2) (n : Int) : hasL (addM l x) n = (inB x n || hasL l n) := by
  induction l generalizing x p with
  | nil => simp [addM, hasL]
  | cons y l ih =>
    rw [chain_cons, spB_iff] at h
    have hxy : x.1 ≤ y.2 := hh y (by simp)
    simp only [addM]
    split
    · rename_i hle
      rw [ih h.2.2 (by simp only; omega) (by
        intro z hz
        cases l with
        | nil => simp at hz
        | cons w l =>
          simp only [List.head?_cons, Option.mem_def, Option.some.injEq] at hz
          subst hz
          have := h.2.2
          rw [chain_cons, spB_iff] at this
          simp only; omega)]
      simp only [hasL]
      rw [← Bool.or_assoc]
      congr 1
      rw [Bool.eq_iff_iff]
      simp only [Bool.or_eq_true, inB_iff]
      omega
    · simp only [hasL]
theorem addL_has {p : Int} {l : List Sp} {x : Sp} (h : chainB p l = true) (hx : x.1 < x.2) (n : Int) : hasL (addL l x) n = (hasL l n || inB x n) := by
  induction l generalizing p with
  | nil => simp [addL, hasL]
  | cons y l ih =>
    simp only [addL]
    split
    · rw [chain_cons] at h
      simp only [hasL]
      rw [ih h.2.2, Bool.or_assoc]
    · rename_i hlt
      rw [addM_has h hx (by intro z hz; simp at hz; subst hz; omega), Bool.or_comm]
theorem joinL_chain {a b : List Sp} {q : Int} (ha : chainB (-1) a = true) (hb : chainB q b = true) : chainB (-1) (joinL a b) = true := by
  induction b generalizing a q with
  | nil => exact ha
  | cons x b ih =>
    rw [chain_cons] at hb
    have hx := (spB_iff x).1 hb.2.1
    exact ih (addL_chain ha hb.2.1 (by omega)) hb.2.2
theorem joinL_has {a b : List Sp} {q : Int} (ha : chainB (-1) a = true) (hb : chainB q b = true) (n : Int) : hasL (joinL a b) n = (hasL a n || hasL b n) := by
  induction b generalizing a q with
  | nil => simp [joinL, hasL]
  | cons x b ih =>
    rw [chain_cons] at hb
    have hx := (spB_iff x).1 hb.2.1
    simp only [joinL, hasL]
    rw [ih (addL_chain ha hb.2.1 (by omega)) hb.2.2, addL_has ha (by omega), Bool.or_assoc]

theorem meetOne_chain {p q : Int} {x : Sp} {b : List Sp} (hb : chainB q b = true) (hx : spB x = true) (hp : p < x.1 ∨ p ≤ q) : chainB p (meetOne x b) = true := by
  induction b generalizing p q with
  | nil => rfl
  | cons y b ih =>
    rw [chain_cons] at hb
    have hy := (spB_iff y).1 hb.2.1
    have hx' := (spB_iff x).1 hx
    simp only [meetOne]
    split
    · rw [chain_cons]
      refine ⟨by simp only; omega, (spB_iff _).2 (by simp only; omega), ih hb.2.2 (Or.inr ?_)⟩
      simp only; omega
    · exact ih hb.2.2 (by omega)
theorem meetOne_in {x : Sp} {b : List Sp} : ∀ z ∈ meetOne x b, x.1 ≤ z.1 ∧ z.2 ≤ x.2 := by
  induction b with
  | nil => simp [meetOne]
  | cons y b ih =>
    intro z hz
    simp only [meetOne] at hz
    split at hz
    · simp only [List.mem_cons] at hz
      rcases hz with rfl | hz
      · simp only; omega
      · exact ih z hz
    · exact ih z hz
theorem chain_append {p q : Int} {a b : List Sp} (ha : chainB p a = true) (hb : chainB q b = true) (h : ∀ z ∈ a, z.2 ≤ q) (hq : p ≤ q) : chainB p (a ++ b) = true := by
  induction a generalizing p with
  | nil => exact chain_mono hb hq
  | cons x a ih =>
    rw [List.cons_append, chain_cons]
    rw [chain_cons] at ha
    exact ⟨ha.1, ha.2.1, ih ha.2.2 (fun z hz => h z (by simp [hz])) (h x (by simp))⟩
theorem meetL_chain {p q : Int} {a b : List Sp} (ha : chainB p a = true) (hb : chainB q b = true) : chainB p (meetL a b) = true := by
  induction a generalizing p with
  | nil => rfl
  | cons x a ih =>
    rw [chain_cons] at ha
    have hx := (spB_iff x).1 ha.2.1
    exact chain_append (meetOne_chain hb ha.2.1 (Or.inl ha.1)) (ih ha.2.2) (fun z hz => (meetOne_in z hz).2) (by omega)
theorem meetOne_has (x : Sp) (b : List Sp) (n : Int) : hasL (meetOne x b) n = (inB x n && hasL b n) := by
  induction b with
  | nil => simp [meetOne, hasL]
  | cons y b ih =>
    have key : inB (max x.1 y.1, min x.2 y.2) n = (inB x n && inB y n) := by
      rw [Bool.eq_iff_iff]
      simp only [Bool.and_eq_true, inB_iff]
      omega
    simp only [meetOne]
    split
    · simp only [hasL]
      rw [ih, key, Bool.and_or_distrib_left]
    · rename_i hlt
      simp only [hasL]
      have e : (inB x n && inB y n) = false := by
        rw [← key]
        cases e : inB (max x.1 y.1, min x.2 y.2) n with
        | false => rfl
        | true => rw [inB_iff] at e; simp only at e; omega
      rw [ih, Bool.and_or_distrib_left, e, Bool.false_or]
theorem meetL_has (a b : List Sp) (n : Int) : hasL (meetL a b) n = (hasL a n && hasL b n) := by
  induction a with
  | nil => simp [meetL, hasL]
  | cons x a ih =>
    simp only [meetL, hasL]
    rw [has_append, ih, meetOne_has, Bool.and_or_distrib_right]

theorem missF_chain {u p : Int} {l : List Sp} (hl : chainB (p - 1) l = true) (h0 : 0 ≤ p) (hu : u ≤ 1000000) : chainB (p - 1) (missF u p l) = true := by
  induction l generalizing p with
  | nil =>
    simp only [missF]
    split
    · rw [chain_cons]; exact ⟨by simp only; omega, (spB_iff _).2 (by simp only; omega), rfl⟩
    · rfl
  | cons x l ih =>
    rw [chain_cons, spB_iff] at hl
    have ih' := ih (p := x.2) (chain_mono hl.2.2 (by omega)) (by omega)
    simp only [missF]
    split
    · split
      · rw [chain_cons]; exact ⟨by simp only; omega, (spB_iff _).2 (by simp only; omega), rfl⟩
      · rfl
    · split
      · rw [chain_cons]
        exact ⟨by simp only; omega, (spB_iff _).2 (by simp only; omega), chain_mono ih' (by simp only; omega)⟩
      · exact chain_mono ih' (by omega)
theorem missF_has {u p : Int} {l : List Sp} (hl : chainB (p - 1) l = true) (n : Int) : hasL (missF u p l) n = (decide (p ≤ n) && decide (n < u) && !hasL l n) := by
  induction l generalizing p with
  | nil =>
    simp only [missF, hasL]
    split
    · simp only [hasL, inB]; simp
    · rename_i h
      cases e : (decide (p ≤ n) && decide (n < u)) with
      | false => simp [hasL]
      | true => simp at e; omega
  | cons x l ih =>
    rw [chain_cons, spB_iff] at hl
    have hrest : n ≤ x.2 → hasL l n = false := fun h => has_le hl.2.2 h
    simp only [missF]
    split
    · rename_i hux
      have hx : n < u → inB x n = false := fun h => by
        cases e : inB x n with
        | false => rfl
        | true => rw [inB_iff] at e; omega
      split
      · simp only [hasL, Bool.or_false]
        by_cases hn : n < u
        · rw [hx hn, hrest (by omega)]; simp [inB]
        · have : inB (p, u) n = false := by
            cases e : inB (p, u) n with
            | false => rfl
            | true => rw [inB_iff] at e; simp only at e; omega
          simp [this, hn]
      · cases e : (decide (p ≤ n) && decide (n < u)) with
        | false => simp [hasL]
        | true => simp at e; omega
    · have hi := ih (p := x.2) (chain_mono hl.2.2 (by omega))
      have main : hasL (missF u x.2 l) n = (decide (x.2 ≤ n) && decide (n < u) && !hasL l n) := hi
      split
      · simp only [hasL]
        rw [main]
        by_cases h1 : n < x.1
        · have e : inB x n = false := by
            cases e : inB x n with
            | false => rfl
            | true => rw [inB_iff] at e; omega
          rw [hrest (by omega), e]
          rw [Bool.eq_iff_iff]
          simp only [Bool.or_eq_true, Bool.and_eq_true, inB_iff, decide_eq_true_eq, Bool.not_eq_true', Bool.or_self]
          constructor
          · rintro (h | h)
            · exact ⟨⟨by omega, by omega⟩, trivial⟩
            · omega
          · rintro h
            exact .inl (by omega)
        · by_cases h2 : n < x.2
          · have e : inB x n = true := (inB_iff x n).2 (by omega)
            rw [e]
            rw [Bool.eq_iff_iff]
            simp only [Bool.or_eq_true, Bool.and_eq_true, inB_iff, decide_eq_true_eq, Bool.true_or, Bool.not_true]
            constructor
            · rintro (h | h) <;> omega
            · rintro ⟨_, h⟩; cases h
          · have e : inB x n = false := by
              cases e : inB x n with
              | false => rfl
              | true => rw [inB_iff] at e; omega
            have e2 : inB (p, x.1) n = false := by
              cases e : inB (p, x.1) n with
              | false => rfl
              | true => rw [inB_iff] at e; simp only at e; omega
            have d1 : decide (x.2 ≤ n) = true := by simp; omega
            have d2 : decide (p ≤ n) = true := by simp; omega
            rw [e, e2, d1, d2]
            simp
      · rw [main]
        simp only [hasL]
        by_cases h2 : n < x.2
        · by_cases h1 : x.1 ≤ n
          · have e : inB x n = true := (inB_iff x n).2 ⟨h1, h2⟩
            have d1 : decide (x.2 ≤ n) = false := by simp; omega
            rw [e, d1]
            simp
          · have d1 : decide (x.2 ≤ n) = false := by simp; omega
            have d2 : decide (p ≤ n) = false := by simp; omega
            rw [d1, d2]
            simp
        · have e : inB x n = false := by
            cases e : inB x n with
            | false => rfl
            | true => rw [inB_iff] at e; omega
          have d1 : decide (x.2 ≤ n) = true := by simp; omega
          have d2 : decide (p ≤ n) = true := by simp; omega
          rw [e, d1, d2]
          simp
end Go.Proofs.Ytnkpboobfkjibal
