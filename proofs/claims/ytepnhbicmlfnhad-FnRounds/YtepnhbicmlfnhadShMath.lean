/-
  Shares in plain words: windows that grow and shrink, how far they spread, how fair they are (Chiu, Jain).
-/
import Derived.Test.YtepnhbicmlfnhadFlowFns
import Derived.Test.YtepnhbicmlfnhadKSharesRows
namespace Go.Proofs.Ytepnhbicmlfnhad

def winB (x : Int) : Bool := decide (1 ≤ x ∧ x ≤ 10000)
def goodS (D : ShD) : Bool := decide (1 ≤ (D.f0.length : Int) ∧ (D.f0.length : Int) ≤ 5) && (D.f0.all (fun x => decide (1 ≤ x ∧ x ≤ 10000)) && decide (1 ≤ D.f1 ∧ D.f1 ≤ 40000))
def zeroS : ShD := ⟨[], 0⟩
def oneMore (x : Int) : Int := x + 1
def halfOf (x : Int) : Int := max 1 (x / 2)
def sqOf (x : Int) : Int := x * x
def growS (D : ShD) : ShD := ⟨D.f0.map oneMore, D.f1⟩
def halveS (D : ShD) : ShD := ⟨D.f0.map halfOf, D.f1⟩
def sumW (D : ShD) : Int := psum (fl D.f0) D.f0.length
def overS (D : ShD) : Bool := decide (D.f1 < sumW D)
def rndS (D : ShD) : ShD := bif overS D then halveS D else growS D
def tellS (b : Bool) (D : ShD) : ShD := bif b then D else zeroS
def bitN (b : Bool) : Nat := bif b then 1 else 0

structure GoodS (D : ShD) : Prop where
  l1 : 1 ≤ D.f0.length
  l5 : D.f0.length ≤ 5
  win : ∀ i, i < D.f0.length → 1 ≤ fl D.f0 i ∧ fl D.f0 i ≤ 10000
  r1 : 1 ≤ D.f1
  r2 : D.f1 ≤ 40000
theorem goodS_iff (D : ShD) : goodS D = true ↔ GoodS D := by
  unfold goodS
  rw [Bool.and_eq_true, Bool.and_eq_true, decide_eq_true_eq, decide_eq_true_eq, List.all_eq_true]
  constructor
  · intro ⟨h1, h2, h3⟩
    refine ⟨by omega, by omega, fun i hi => ?_, h3.1, h3.2⟩
    have := h2 (D.f0.getD i 0) (by rw [List.getD_eq_getElem?_getD, List.getElem?_eq_getElem hi]; exact List.getElem_mem _)
    rw [decide_eq_true_eq] at this
    exact this
  · intro h
    refine ⟨⟨by have := h.l1; omega, by have := h.l5; omega⟩, fun x hx => ?_, h.r1, h.r2⟩
    obtain ⟨i, hi, rfl⟩ := List.getElem_of_mem hx
    have := h.win i hi
    unfold fl at this
    rw [List.getD_eq_getElem?_getD, List.getElem?_eq_getElem hi] at this
    rw [decide_eq_true_eq]
    exact this
theorem goodS_no {D : ShD} (h : ¬ GoodS D) : goodS D = false := by
  rw [← Bool.not_eq_true, goodS_iff]; exact h
theorem fl_map (f : Int → Int) (xs : List Int) (i : Nat) (hi : i < xs.length) : fl (xs.map f) i = f (fl xs i) := by
  unfold fl
  rw [List.getD_eq_getElem?_getD, List.getD_eq_getElem?_getD, List.getElem?_map, List.getElem?_eq_getElem hi]
  rfl
theorem psum_bd {f : Nat → Int} {b : Int} (hb : 0 ≤ b) : ∀ n : Nat, (∀ i, i < n → 0 ≤ f i ∧ f i ≤ b) → 0 ≤ psum f n ∧ psum f n ≤ b * n
  | 0, _ => by simp [psum]
  | n + 1, h => by
    have h1 := psum_bd hb n fun i hi => h i (by omega)
    have h2 := h n (by omega)
    simp only [psum]
    rw [show ((n + 1 : Nat) : Int) = (n : Int) + 1 by omega, Int.mul_add, Int.mul_one]
    omega
theorem GoodS.psums {D : ShD} (h : GoodS D) (k : Nat) (hk : k ≤ D.f0.length) : 0 ≤ psum (fl D.f0) k ∧ psum (fl D.f0) k ≤ 50000 := by
  have h1 := psum_bd (f := fl D.f0) (b := 10000) (by omega) k (fun i hi => by have := h.win i (by omega); omega)
  have := h.l5
  omega
theorem sq_bd {x : Int} (h1 : 1 ≤ x) (h2 : x ≤ 10000) : 1 ≤ sqOf x ∧ sqOf x ≤ 100000000 := by
  unfold sqOf
  have a : 1 * 1 ≤ x * x := Int.mul_le_mul h1 h1 (by omega) (by omega)
  have b : x * x ≤ 10000 * 10000 := Int.mul_le_mul h2 h2 (by omega) (by omega)
  omega
def sqW (D : ShD) : Int := psum (fl (D.f0.map sqOf)) D.f0.length
theorem GoodS.psq {D : ShD} (h : GoodS D) (k : Nat) (hk : k ≤ D.f0.length) : 0 ≤ psum (fl (D.f0.map sqOf)) k ∧ psum (fl (D.f0.map sqOf)) k ≤ 500000000 := by
  have h1 := psum_bd (f := fl (D.f0.map sqOf)) (b := 100000000) (by omega) k (fun i hi => by
    rw [fl_map _ _ _ (by omega)]
    have h1 := h.win i (by omega)
    have := sq_bd h1.1 h1.2
    omega)
  have := h.l5
  omega
/-- The two numbers of the fraction. -/
def fairP (D : ShD) : Int := sumW D * sumW D
def fairQ (D : ShD) : Int := (D.f0.length : Int) * sqW D
theorem GoodS.fair {D : ShD} (h : GoodS D) : (0 ≤ fairP D ∧ fairP D ≤ 2500000000) ∧ (0 ≤ fairQ D ∧ fairQ D ≤ 2500000000) := by
  have a := h.psums D.f0.length (Nat.le_refl _)
  have b := h.psq D.f0.length (Nat.le_refl _)
  have l := h.l5
  have a1 : sumW D * sumW D ≤ 50000 * 50000 := Int.mul_le_mul a.2 a.2 a.1 (by omega)
  have a2 : 0 ≤ sumW D * sumW D := Int.mul_nonneg a.1 a.1
  have b1 : (D.f0.length : Int) * sqW D ≤ 5 * 500000000 := Int.mul_le_mul (by omega) b.2 b.1 (by omega)
  have b2 : 0 ≤ (D.f0.length : Int) * sqW D := Int.mul_nonneg (by omega) b.1
  unfold fairP fairQ
  omega
theorem fair_mul {p s : Int} (h1 : 0 ≤ p) (h2 : p ≤ 2500000000) (h3 : 0 ≤ s) (h4 : s ≤ 2500000000) : 0 ≤ p * s ∧ p * s ≤ 6250000000000000000 := by
  have a : p * s ≤ 2500000000 * 2500000000 := Int.mul_le_mul h2 h4 h3 (by omega)
  have b : 0 ≤ p * s := Int.mul_nonneg h1 h3
  omega
def fairerB (A B : ShD) : Bool := decide (fairP B * fairQ A < fairP A * fairQ B)
def bothS (A B : ShD) : Bool := goodS A && (goodS B && decide (A.f0.length = B.f0.length))

-- the greatest and the least
def mxL (xs : List Int) : Nat → Int
  | 0 => fl xs 0
  | k + 1 => max (mxL xs k) (fl xs k)
def mnL (xs : List Int) : Nat → Int
  | 0 => fl xs 0
  | k + 1 => min (mnL xs k) (fl xs k)
theorem mxL_le {xs : List Int} (c : Int) : ∀ k, 0 < k → (mxL xs k ≤ c ↔ ∀ i, i < k → fl xs i ≤ c)
  | 0, h => by omega
  | 1, _ => by
    simp only [mxL]
    exact ⟨fun h i hi => by obtain rfl : i = 0 := by omega
                            omega, fun h => by have := h 0 (by omega); omega⟩
  | k + 2, _ => by
    have ih := mxL_le (xs := xs) c (k + 1) (by omega)
    have e : mxL xs (k + 2) = max (mxL xs (k + 1)) (fl xs (k + 1)) := rfl
    rw [e]
    constructor
    · intro h i hi
      by_cases hj : i = k + 1
      · subst hj; omega
      · exact ih.1 (by omega) i (by omega)
    · intro h
      have a := ih.2 fun i hi => h i (by omega)
      have b := h (k + 1) (by omega)
      omega
theorem mnL_ge {xs : List Int} (c : Int) : ∀ k, 0 < k → (c ≤ mnL xs k ↔ ∀ i, i < k → c ≤ fl xs i)
  | 0, h => by omega
  | 1, _ => by
    simp only [mnL]
    exact ⟨fun h i hi => by obtain rfl : i = 0 := by omega
                            omega, fun h => by have := h 0 (by omega); omega⟩
  | k + 2, _ => by
    have ih := mnL_ge (xs := xs) c (k + 1) (by omega)
    have e : mnL xs (k + 2) = min (mnL xs (k + 1)) (fl xs (k + 1)) := rfl
    rw [e]
    constructor
    · intro h i hi
      by_cases hj : i = k + 1
      · subst hj; omega
      · exact ih.1 (by omega) i (by omega)
    · intro h
      have a := ih.2 fun i hi => h i (by omega)
      have b := h (k + 1) (by omega)
      omega
def sprS (D : ShD) : Int := mxL D.f0 D.f0.length - mnL D.f0 D.f0.length
theorem mx_only {xs : List Int} (h0 : 0 < xs.length) {r : Int} (h : ∀ c : Int, r ≤ c ↔ ∀ i, i < xs.length → xs.getD i 0 ≤ c) : r = mxL xs xs.length := by
  have a := (h (mxL xs xs.length)).2 ((mxL_le _ _ h0).1 (Int.le_refl _))
  have b := (mxL_le r xs.length h0).2 ((h r).1 (Int.le_refl _))
  omega
theorem mn_only {xs : List Int} (h0 : 0 < xs.length) {r : Int} (h : ∀ c : Int, c ≤ r ↔ ∀ i, i < xs.length → c ≤ xs.getD i 0) : r = mnL xs xs.length := by
  have a := (h (mnL xs xs.length)).2 ((mnL_ge _ _ h0).1 (Int.le_refl _))
  have b := (mnL_ge r xs.length h0).2 ((h r).1 (Int.le_refl _))
  omega
theorem GoodS.ends {D : ShD} (h : GoodS D) : (1 ≤ mnL D.f0 D.f0.length ∧ mnL D.f0 D.f0.length ≤ mxL D.f0 D.f0.length) ∧ mxL D.f0 D.f0.length ≤ 10000 := by
  have l := h.l1
  refine ⟨⟨(mnL_ge 1 _ l).2 fun i hi => (h.win i hi).1, ?_⟩, (mxL_le _ _ l).2 fun i hi => (h.win i hi).2⟩
  have a := (mnL_ge _ _ l).1 (Int.le_refl (mnL D.f0 D.f0.length)) 0 (by omega)
  have b := (mxL_le _ _ l).1 (Int.le_refl (mxL D.f0 D.f0.length)) 0 (by omega)
  omega

-- rounds
def rndsS (D : ShD) : Nat → Option (ShD × Nat)
  | 0 => some (D, 0)
  | k + 1 => (rndsS D k).bind fun p => bif goodS (rndS p.1) then some (rndS p.1, p.2 + bitN (overS p.1)) else none
theorem rndsS_none {D : ShD} {k : Nat} (h : rndsS D k = none) : ∀ j, k ≤ j → rndsS D j = none
  | 0, hj => by obtain rfl : k = 0 := by omega
                exact h
  | j + 1, hj => by
    by_cases e : k = j + 1
    · rw [← e]; exact h
    · show (rndsS D j).bind _ = none
      rw [rndsS_none h j (by omega)]; rfl
theorem rndsS_step {D E : ShD} {k n : Nat} (h : rndsS D k = some (E, n)) : rndsS D (k + 1) = bif goodS (rndS E) then some (rndS E, n + bitN (overS E)) else none := by
  show (rndsS D k).bind _ = _
  rw [h]; rfl
theorem rndsS_le {D : ShD} : ∀ {k : Nat} {E : ShD} {n : Nat}, rndsS D k = some (E, n) → n ≤ k
  | 0, E, n, h => by simp only [rndsS, Option.some.injEq, Prod.mk.injEq] at h; omega
  | k + 1, E, n, h => by
    change (rndsS D k).bind _ = _ at h
    rcases e : rndsS D k with _ | ⟨F, m⟩
    · rw [e] at h; cases h
    · rw [e] at h
      have ih := rndsS_le e
      simp only [Option.bind_some] at h
      cases hg : goodS (rndS F)
      · rw [hg] at h; cases h
      · rw [hg] at h
        simp only [cond_true, Option.some.injEq, Prod.mk.injEq] at h
        have : bitN (overS F) ≤ 1 := by unfold bitN; cases overS F <;> simp
        omega
theorem rndsS_good {D : ShD} (hD : GoodS D) : ∀ {k : Nat} {E : ShD} {n : Nat}, rndsS D k = some (E, n) → GoodS E
  | 0, E, n, h => by simp only [rndsS, Option.some.injEq, Prod.mk.injEq] at h; rw [← h.1]; exact hD
  | k + 1, E, n, h => by
    change (rndsS D k).bind _ = _ at h
    rcases e : rndsS D k with _ | ⟨F, m⟩
    · rw [e] at h; cases h
    · rw [e] at h
      simp only [Option.bind_some] at h
      cases hg : goodS (rndS F)
      · rw [hg] at h; cases h
      · rw [hg] at h
        simp only [cond_true, Option.some.injEq, Prod.mk.injEq] at h
        rw [← h.1]; exact (goodS_iff _).1 hg
/-- All that RoundsOf tells. -/
def rndsOk (D : ShD) (many : Int) : Bool := goodS D && (decide (0 ≤ many ∧ many ≤ 40) && (rndsS D many.toNat).isSome)
def rndsD (D : ShD) (many : Int) : ShD := bif rndsOk D many then ((rndsS D many.toNat).getD (zeroS, 0)).1 else zeroS
def rndsN (D : ShD) (many : Int) : Int := bif rndsOk D many then (((rndsS D many.toNat).getD (zeroS, 0)).2 : Int) else 0

-- Chiu, Jain
theorem psum_sqdev (f g : Nat → Int) (a b : Int) : ∀ n : Nat, (∀ i, i < n → g i = f i * f i) → psum (fun i => (a * f i - b) * (a * f i - b)) n = a * a * psum g n - 2 * a * b * psum f n + n * (b * b)
  | 0, _ => by simp [psum]
  | n + 1, h => by
    have ih := psum_sqdev f g a b n fun i hi => h i (by omega)
    have e := h n (by omega)
    simp only [psum]
    rw [ih, e]
    have : ((n + 1 : Nat) : Int) = (n : Int) + 1 := by omega
    rw [this]
    grind
theorem psum_nonneg {f : Nat → Int} : ∀ n : Nat, (∀ i, i < n → 0 ≤ f i) → 0 ≤ psum f n
  | 0, _ => by simp [psum]
  | n + 1, h => by
    have := psum_nonneg n fun i hi => h i (by omega)
    have := h n (by omega)
    simp only [psum]; omega
theorem psum_zero {f : Nat → Int} : ∀ n : Nat, (∀ i, i < n → 0 ≤ f i) → psum f n = 0 → ∀ i, i < n → f i = 0
  | 0, _, _, i, hi => by omega
  | n + 1, h, hz, i, hi => by
    have h1 := psum_nonneg n fun i hi => h i (by omega)
    have h2 := h n (by omega)
    simp only [psum] at hz
    by_cases e : i = n
    · subst e; omega
    · exact psum_zero n (fun i hi => h i (by omega)) (by omega) i (by omega)
theorem sq_nonneg (x : Int) : 0 ≤ x * x := by
  by_cases h : 0 ≤ x
  · exact Int.mul_nonneg h h
  · have := Int.mul_nonneg (a := -x) (b := -x) (by omega) (by omega)
    rwa [Int.neg_mul_neg] at this
theorem sq_zero {x : Int} (h : x * x = 0) : x = 0 := by
  rcases Int.mul_eq_zero.1 h with h | h <;> exact h
theorem fair_dev (D : ShD) : psum (fun i => ((D.f0.length : Int) * fl D.f0 i - sumW D) * ((D.f0.length : Int) * fl D.f0 i - sumW D)) D.f0.length = (D.f0.length : Int) * (fairQ D - fairP D) := by
  rw [psum_sqdev (fl D.f0) (fl (D.f0.map sqOf)) _ _ D.f0.length fun i hi => by rw [fl_map _ _ _ hi]; rfl]
  unfold fairQ fairP sqW sumW
  grind
theorem GoodS.chiu {D : ShD} (h : GoodS D) : fairP D ≤ fairQ D := by
  have a := fair_dev D
  have b := psum_nonneg (f := fun i => ((D.f0.length : Int) * fl D.f0 i - sumW D) * ((D.f0.length : Int) * fl D.f0 i - sumW D)) D.f0.length fun i _ => sq_nonneg _
  rw [a] at b
  have l := h.l1
  have := Int.nonneg_of_mul_nonneg_right b (by omega)
  omega
theorem psum_const {f : Nat → Int} {c : Int} : ∀ n : Nat, (∀ i, i < n → f i = c) → psum f n = n * c
  | 0, _ => by simp [psum]
  | n + 1, h => by
    have h1 := psum_const n fun i hi => h i (by omega)
    have h2 := h n (by omega)
    simp only [psum]
    rw [h1, h2, show ((n + 1 : Nat) : Int) = (n : Int) + 1 by omega, Int.add_mul, Int.one_mul]
theorem GoodS.alike {D : ShD} (h : GoodS D) : sprS D = 0 ↔ fairP D = fairQ D := by
  have l := h.l1
  have mx := (mxL_le _ _ l).1 (Int.le_refl (mxL D.f0 D.f0.length))
  have mn := (mnL_ge _ _ l).1 (Int.le_refl (mnL D.f0 D.f0.length))
  constructor
  · intro hs
    unfold sprS at hs
    obtain ⟨c, hc⟩ : ∃ c, c = mnL D.f0 D.f0.length := ⟨_, rfl⟩
    have e : ∀ i, i < D.f0.length → fl D.f0 i = c := fun i hi => by have := mx i hi; have := mn i hi; omega
    have e1 : sumW D = D.f0.length * c := psum_const _ e
    have e2 : sqW D = D.f0.length * (c * c) := psum_const _ fun i hi => by rw [fl_map _ _ _ hi, e i hi]; rfl
    unfold fairP fairQ
    rw [e1, e2]
    grind
  · intro he
    have a := fair_dev D
    rw [he, Int.sub_self, Int.mul_zero] at a
    have z := psum_zero _ (fun i _ => sq_nonneg _) a
    have e : ∀ i, i < D.f0.length → fl D.f0 i = fl D.f0 0 := fun i hi => by
      have h1 := sq_zero (z i hi)
      have h0 := sq_zero (z 0 (by omega))
      have h2 : (D.f0.length : Int) * fl D.f0 i = (D.f0.length : Int) * fl D.f0 0 := by omega
      exact Int.eq_of_mul_eq_mul_left (by omega) h2
    have x1 := (mxL_le (xs := D.f0) (fl D.f0 0) _ l).2 fun i hi => by rw [e i hi]; exact Int.le_refl _
    have x2 := (mnL_ge (xs := D.f0) (fl D.f0 0) _ l).2 fun i hi => by rw [e i hi]; exact Int.le_refl _
    have x3 := h.ends
    unfold sprS
    omega
theorem psum_shift {f : Nat → Int} {g : Nat → Int} : ∀ n : Nat, (∀ i, i < n → g i = f i + 1) → psum g n = psum f n + n
  | 0, _ => by simp [psum]
  | n + 1, h => by
    have h1 := psum_shift n fun i hi => h i (by omega)
    have h2 := h n (by omega)
    simp only [psum]
    omega
theorem psum_sqshift {f g : Nat → Int} {q : Nat → Int} : ∀ n : Nat, (∀ i, i < n → g i = (f i + 1) * (f i + 1)) → (∀ i, i < n → q i = f i * f i) → psum g n = psum q n + 2 * psum f n + n
  | 0, _, _ => by simp [psum]
  | n + 1, h, k => by
    have h1 := psum_sqshift n (fun i hi => h i (by omega)) fun i hi => k i (by omega)
    have h2 := h n (by omega)
    have h3 := k n (by omega)
    simp only [psum]
    rw [h1, h2, h3]
    have : ((n + 1 : Nat) : Int) = (n : Int) + 1 := by omega
    rw [this]
    grind
theorem grow_len (D : ShD) : (growS D).f0.length = D.f0.length := by simp [growS]
theorem halve_len (D : ShD) : (halveS D).f0.length = D.f0.length := by simp [halveS]
/-- Windows that grow by the same are no less fair. -/
theorem GoodS.fairer {D : ShD} (h : GoodS D) : fairerB D (growS D) = false := by
  unfold fairerB
  rw [decide_eq_false_iff_not]
  have c := h.chiu
  have l := h.l1
  have s0 := (h.psums D.f0.length (Nat.le_refl _)).1
  have e1 : sumW (growS D) = sumW D + D.f0.length := by
    unfold sumW
    rw [grow_len]
    exact psum_shift _ fun i hi => fl_map _ _ _ hi
  have e2 : sqW (growS D) = sqW D + 2 * sumW D + D.f0.length := by
    unfold sqW sumW
    rw [grow_len]
    refine psum_sqshift _ (fun i hi => ?_) fun i hi => by rw [fl_map _ _ _ hi]; rfl
    rw [fl_map _ _ _ (by rw [grow_len]; exact hi)]
    show sqOf (fl (D.f0.map oneMore) i) = _
    rw [fl_map _ _ _ hi]; rfl
  unfold fairP fairQ at c ⊢
  rw [grow_len, e1, e2]
  change 0 ≤ sumW D at s0
  generalize sumW D = S at *
  generalize sqW D = Q at *
  obtain ⟨n, hn⟩ : ∃ n : Int, n = (D.f0.length : Int) := ⟨_, rfl⟩
  rw [← hn] at c ⊢
  have hn1 : 1 ≤ n := by omega
  have key : (S + n) * (S + n) * (n * Q) - S * S * (n * (Q + 2 * S + n)) = n * ((2 * S + n) * (n * Q - S * S)) := by grind
  have : 0 ≤ n * ((2 * S + n) * (n * Q - S * S)) := Int.mul_nonneg (by omega) (Int.mul_nonneg (by omega) (by omega))
  omega
theorem GoodS.grow_spread {D : ShD} (h : GoodS D) : sprS (growS D) = sprS D := by
  have l := h.l1
  have l' : 0 < (growS D).f0.length := by rw [grow_len]; exact l
  have mx : ∀ i, i < D.f0.length → fl (growS D).f0 i = fl D.f0 i + 1 := fun i hi => fl_map _ _ _ hi
  have a : mxL (growS D).f0 (growS D).f0.length = mxL D.f0 D.f0.length + 1 := by
    symm
    refine mx_only l' fun c => ?_
    have := mxL_le (xs := D.f0) (c - 1) _ l
    constructor
    · intro hh i hi
      rw [grow_len] at hi
      have h1 := this.1 (by omega) i hi
      have h2 := mx i hi
      unfold fl at h1 h2; omega
    · intro hh
      have := this.2 fun i hi => by have h1 := hh i (by rw [grow_len]; exact hi); have h2 := mx i hi; unfold fl at h2 ⊢; omega
      omega
  have b : mnL (growS D).f0 (growS D).f0.length = mnL D.f0 D.f0.length + 1 := by
    symm
    refine mn_only l' fun c => ?_
    have := mnL_ge (xs := D.f0) (c - 1) _ l
    constructor
    · intro hh i hi
      rw [grow_len] at hi
      have h1 := this.1 (by omega) i hi
      have h2 := mx i hi
      unfold fl at h1 h2; omega
    · intro hh
      have := this.2 fun i hi => by have h1 := hh i (by rw [grow_len]; exact hi); have h2 := mx i hi; unfold fl at h2 ⊢; omega
      omega
  unfold sprS
  omega
theorem GoodS.halve_spread {D : ShD} (h : GoodS D) : sprS (halveS D) ≤ (sprS D + 1) / 2 := by
  have l := h.l1
  have l' : 0 < (halveS D).f0.length := by rw [halve_len]; exact l
  have mx : ∀ i, i < D.f0.length → fl (halveS D).f0 i = halfOf (fl D.f0 i) := fun i hi => fl_map _ _ _ hi
  have e := h.ends
  have hx := (mxL_le _ _ l).1 (Int.le_refl (mxL D.f0 D.f0.length))
  have hn := (mnL_ge _ _ l).1 (Int.le_refl (mnL D.f0 D.f0.length))
  have a := (mxL_le (xs := (halveS D).f0) (halfOf (mxL D.f0 D.f0.length)) _ l').2 fun i hi => by
    rw [halve_len] at hi
    have h1 := hx i hi
    rw [mx i hi]; unfold halfOf; omega
  have b := (mnL_ge (xs := (halveS D).f0) (halfOf (mnL D.f0 D.f0.length)) _ l').2 fun i hi => by
    rw [halve_len] at hi
    have h1 := hn i hi
    rw [mx i hi]; unfold halfOf; omega
  unfold sprS
  unfold halfOf at a b
  omega
/-- The spread behind so many halvings. -/
def mostS (d : Int) : Nat → Int
  | 0 => d
  | n + 1 => (mostS d n + 1) / 2
theorem rnds_spread {D : ShD} (hD : GoodS D) : ∀ {k : Nat} {E : ShD} {n : Nat}, rndsS D k = some (E, n) → sprS E ≤ mostS (sprS D) n
  | 0, E, n, h => by simp only [rndsS, Option.some.injEq, Prod.mk.injEq] at h; rw [← h.1, ← h.2]; exact Int.le_refl _
  | k + 1, E, n, h => by
    change (rndsS D k).bind _ = _ at h
    rcases e : rndsS D k with _ | ⟨F, m⟩
    · rw [e] at h; cases h
    · have ih := rnds_spread hD e
      have gF := rndsS_good hD e
      rw [e] at h
      simp only [Option.bind_some] at h
      cases hg : goodS (rndS F)
      · rw [hg] at h; cases h
      · rw [hg] at h
        simp only [cond_true, Option.some.injEq, Prod.mk.injEq] at h
        rw [← h.1, ← h.2]
        unfold rndS bitN
        cases ho : overS F
        · simp only [cond_false, Nat.add_zero]
          rw [gF.grow_spread]; exact ih
        · simp only [cond_true]
          have := gF.halve_spread
          simp only [mostS]
          omega
theorem mostS_in {d : Int} (h0 : 0 ≤ d) (h1 : d ≤ 10000) : ∀ n, 0 ≤ mostS d n ∧ mostS d n ≤ 10000
  | 0 => ⟨h0, h1⟩
  | n + 1 => by have := mostS_in h0 h1 n; simp only [mostS]; omega
end Go.Proofs.Ytepnhbicmlfnhad
