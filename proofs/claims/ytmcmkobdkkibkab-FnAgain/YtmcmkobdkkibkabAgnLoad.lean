/-
  The load of tasks that come again, as a fraction in its lowest terms: it does not hang on their order, and it is at most one where all are in time: plain arithmetic, no program.
-/
import Derived.Test.YtmcmkobdkkibkabAgnRate
namespace Go.Proofs.Ytmcmkobdkkibkab

/-- One task more: the fraction c / t is added, and both parts are divided by what they have in common. -/
def loadStep (s : Nat × Nat) (x : Nat × Nat) : Nat × Nat :=
  ((s.1 * x.2 + x.1 * s.2) / Nat.gcd (s.1 * x.2 + x.1 * s.2) (s.2 * x.2), (s.2 * x.2) / Nat.gcd (s.1 * x.2 + x.1 * s.2) (s.2 * x.2))
def loadF (L : List (Nat × Nat)) : Nat × Nat := L.foldl loadStep (0, 1)
theorem loadF_snoc (L : List (Nat × Nat)) (x : Nat × Nat) : loadF (L ++ [x]) = loadStep (loadF L) x := by simp [loadF, List.foldl_append]
/-- The sum over the product of all, not divided. -/
def rawStep (s : Nat × Nat) (x : Nat × Nat) : Nat × Nat := (s.1 * x.2 + x.1 * s.2, s.2 * x.2)
def rawF (L : List (Nat × Nat)) : Nat × Nat := L.foldl rawStep (0, 1)
theorem rawF_snoc (L : List (Nat × Nat)) (x : Nat × Nat) : rawF (L ++ [x]) = rawStep (rawF L) x := by simp [rawF, List.foldl_append]
theorem rawF_perm {L M : List (Nat × Nat)} (h : L.Perm M) : rawF L = rawF M := by
  unfold rawF
  refine h.foldl_eq' (fun x _ y _ z => ?_) _
  unfold rawStep
  simp only [Prod.mk.injEq]
  constructor
  · rw [Nat.add_mul, Nat.add_mul]
    have e1 : z.1 * x.2 * y.2 = z.1 * y.2 * x.2 := Nat.mul_right_comm _ _ _
    have e2 : x.1 * z.2 * y.2 = x.1 * (z.2 * y.2) := Nat.mul_assoc _ _ _
    have e3 : y.1 * z.2 * x.2 = y.1 * (z.2 * x.2) := Nat.mul_assoc _ _ _
    omega
  · exact Nat.mul_right_comm _ _ _
structure LoadOk (s r : Nat × Nat) : Prop where
  low : 0 < s.2
  den : 0 < r.2
  prime : Nat.Coprime s.1 s.2
  same : s.1 * r.2 = s.2 * r.1
theorem loadOk_step {s r x : Nat × Nat} (h : LoadOk s r) (hx : 0 < x.2) : LoadOk (loadStep s x) (rawStep r x) := by
  obtain ⟨h1, h2, h3, h4⟩ := h
  have hb : 0 < s.2 * x.2 := Nat.mul_pos h1 hx
  have hg : 0 < Nat.gcd (s.1 * x.2 + x.1 * s.2) (s.2 * x.2) := Nat.gcd_pos_of_pos_right _ hb
  have hd1 := Nat.gcd_dvd_left (s.1 * x.2 + x.1 * s.2) (s.2 * x.2)
  have hd2 := Nat.gcd_dvd_right (s.1 * x.2 + x.1 * s.2) (s.2 * x.2)
  refine ⟨Nat.div_pos (Nat.le_of_dvd hb hd2) hg, Nat.mul_pos h2 hx, Nat.coprime_div_gcd_div_gcd hg, ?_⟩
  unfold loadStep rawStep
  simp only
  obtain ⟨a, ha⟩ := hd1
  obtain ⟨b, hb'⟩ := hd2
  obtain ⟨G, hG⟩ : ∃ G, G = Nat.gcd (s.1 * x.2 + x.1 * s.2) (s.2 * x.2) := ⟨_, rfl⟩
  rw [← hG] at hg ha hb' ⊢
  have key : (s.1 * x.2 + x.1 * s.2) * (r.2 * x.2) = (s.2 * x.2) * (r.1 * x.2 + x.1 * r.2) := by
    have e1 : (s.1 * x.2 + x.1 * s.2) * (r.2 * x.2) = s.1 * r.2 * (x.2 * x.2) + x.1 * (s.2 * (r.2 * x.2)) := by
      rw [Nat.add_mul, Nat.mul_assoc x.1, Nat.mul_mul_mul_comm s.1 x.2 r.2 x.2]
    have e2 : (s.2 * x.2) * (r.1 * x.2 + x.1 * r.2) = s.2 * r.1 * (x.2 * x.2) + x.1 * (s.2 * (r.2 * x.2)) := by
      rw [Nat.mul_add, Nat.mul_mul_mul_comm s.2 x.2 r.1 x.2]
      congr 1
      rw [Nat.mul_comm x.1 r.2, ← Nat.mul_assoc, Nat.mul_comm x.1, Nat.mul_assoc s.2 x.2 r.2, Nat.mul_comm x.2 r.2]
    rw [e1, e2, h4]
  rw [ha, hb'] at key ⊢
  rw [Nat.mul_div_cancel_left _ hg, Nat.mul_div_cancel_left _ hg]
  rw [Nat.mul_assoc, Nat.mul_assoc] at key
  exact Nat.eq_of_mul_eq_mul_left hg key
theorem loadOk_all : ∀ (L : List (Nat × Nat)), (∀ x, x ∈ L → 0 < x.2) → LoadOk (loadF L.reverse) (rawF L.reverse)
  | [], _ => ⟨by decide, by decide, by decide, by decide⟩
  | x :: L, h => by
    rw [List.reverse_cons, loadF_snoc, rawF_snoc]
    exact loadOk_step (loadOk_all L fun y hy => h y (List.mem_cons_of_mem _ hy)) (h x (by simp))
theorem loadOk_of (L : List (Nat × Nat)) (h : ∀ x, x ∈ L → 0 < x.2) : LoadOk (loadF L) (rawF L) := by
  have := loadOk_all L.reverse fun x hx => h x (List.mem_reverse.1 hx)
  rw [List.reverse_reverse] at this
  exact this
theorem lowest_only {a b c d D U : Nat} (hb : 0 < b) (hd : 0 < d) (hD : 0 < D) (h1 : Nat.Coprime a b) (h2 : Nat.Coprime c d) (e1 : a * D = b * U) (e2 : c * D = d * U) : a = c ∧ b = d := by
  have cross : a * d = c * b := by
    refine Nat.eq_of_mul_eq_mul_left hD ?_
    have g1 : D * (a * d) = b * U * d := by rw [← e1, ← Nat.mul_assoc, Nat.mul_comm D a]
    have g2 : D * (c * b) = d * U * b := by rw [← e2, ← Nat.mul_assoc, Nat.mul_comm D c]
    rw [g1, g2, Nat.mul_comm (b * U) d, Nat.mul_comm b U, ← Nat.mul_assoc]
  have d1 : b ∣ d := h1.symm.dvd_of_dvd_mul_left (by rw [cross]; exact Nat.dvd_mul_left b c)
  have d2 : d ∣ b := h2.symm.dvd_of_dvd_mul_left (by rw [← cross]; exact Nat.dvd_mul_left d a)
  have e : b = d := Nat.dvd_antisymm d1 d2
  subst e
  exact ⟨Nat.eq_of_mul_eq_mul_right hb cross, rfl⟩
/-- The load does not hang on the order. -/
theorem load_perm {L M : List (Nat × Nat)} (h : L.Perm M) (hp : ∀ x, x ∈ L → 0 < x.2) : loadF L = loadF M := by
  have h1 := loadOk_of L hp
  have h2 := loadOk_of M fun x hx => hp x (h.mem_iff.2 hx)
  rw [← rawF_perm h] at h2
  obtain ⟨e1, e2⟩ := lowest_only h1.low h2.low h1.den h1.prime h2.prime h1.same h2.same
  exact Prod.ext e1 e2
def sumQ (q : Nat → Nat) : List (Nat × Nat) → Nat
  | [] => 0
  | x :: L => sumQ q L + x.1 * q x.2
theorem load_le {r : Nat} {q : Nat → Nat} : ∀ (L : List (Nat × Nat)), (∀ x, x ∈ L → 0 < x.2 ∧ r ≤ x.2 * q x.2) → r * (loadF L.reverse).1 ≤ (loadF L.reverse).2 * sumQ q L
  | [], _ => by simp [loadF, sumQ]
  | x :: L, h => by
    have ih := load_le L fun y hy => h y (List.mem_cons_of_mem _ hy)
    obtain ⟨hx, hq⟩ := h x (by simp)
    have hok := loadOk_all L fun y hy => (h y (List.mem_cons_of_mem _ hy)).1
    rw [List.reverse_cons, loadF_snoc]
    obtain ⟨s, hs⟩ : ∃ s, s = loadF L.reverse := ⟨_, rfl⟩
    rw [← hs] at ih hok ⊢
    have hb : 0 < s.2 * x.2 := Nat.mul_pos hok.low hx
    have hg : 0 < Nat.gcd (s.1 * x.2 + x.1 * s.2) (s.2 * x.2) := Nat.gcd_pos_of_pos_right _ hb
    obtain ⟨a, ha⟩ := Nat.gcd_dvd_left (s.1 * x.2 + x.1 * s.2) (s.2 * x.2)
    obtain ⟨b, hb'⟩ := Nat.gcd_dvd_right (s.1 * x.2 + x.1 * s.2) (s.2 * x.2)
    unfold loadStep
    simp only [sumQ]
    obtain ⟨G, hG⟩ : ∃ G, G = Nat.gcd (s.1 * x.2 + x.1 * s.2) (s.2 * x.2) := ⟨_, rfl⟩
    rw [← hG] at hg ha hb' ⊢
    have key : r * (s.1 * x.2 + x.1 * s.2) ≤ (s.2 * x.2) * (sumQ q L + x.1 * q x.2) := by
      rw [Nat.mul_add, Nat.mul_add]
      have k1 : r * (s.1 * x.2) ≤ s.2 * x.2 * sumQ q L := by
        have := Nat.mul_le_mul_right x.2 ih
        rw [Nat.mul_assoc] at this
        rw [Nat.mul_right_comm]
        exact this
      have k2 : r * (x.1 * s.2) ≤ s.2 * x.2 * (x.1 * q x.2) := by
        have := Nat.mul_le_mul_right (x.1 * s.2) hq
        refine Nat.le_trans this (Nat.le_of_eq ?_)
        rw [Nat.mul_comm x.1 s.2, Nat.mul_comm x.2 (q x.2), Nat.mul_comm (q x.2 * x.2), Nat.mul_comm (q x.2) x.2, ← Nat.mul_assoc, Nat.mul_right_comm s.2 x.1 x.2, Nat.mul_assoc (s.2 * x.2)]
      omega
    rw [ha, hb'] at key ⊢
    rw [Nat.mul_div_cancel_left _ hg, Nat.mul_div_cancel_left _ hg]
    refine Nat.le_of_mul_le_mul_left ?_ hg
    rw [← Nat.mul_assoc G b, ← Nat.mul_assoc G r, Nat.mul_comm G r, Nat.mul_assoc]
    exact key

def needA (l : List AgEl) (k : Nat) : Int := (l.getD k (0, 0)).1
def everyA (l : List AgEl) (k : Nat) : Int := (l.getD k (0, 0)).2
def againB (x : AgEl) : Bool := decide (1 ≤ x.1 ∧ x.1 ≤ 10) && decide (x.1 ≤ x.2 ∧ x.2 ≤ 40)
def goodA (l : List AgEl) : Bool := l.all againB && decide (l.length ≤ 5)
theorem goodA_len {l : List AgEl} (h : goodA l = true) : l.length ≤ 5 := by
  unfold goodA at h
  rw [Bool.and_eq_true, decide_eq_true_eq] at h
  exact h.2
theorem goodA_mem {l : List AgEl} (h : goodA l = true) {x : AgEl} (hx : x ∈ l) : (1 ≤ x.1 ∧ x.1 ≤ 10) ∧ (x.1 ≤ x.2 ∧ x.2 ≤ 40) := by
  unfold goodA at h
  rw [Bool.and_eq_true, List.all_eq_true] at h
  have := h.1 x hx
  unfold againB at this
  rw [Bool.and_eq_true, decide_eq_true_eq, decide_eq_true_eq] at this
  exact this
theorem getA_mem {l : List AgEl} {k : Nat} (hk : k < l.length) : l.getD k (0, 0) ∈ l := by
  rw [List.getD_eq_getElem?_getD, List.getElem?_eq_getElem hk]
  exact List.getElem_mem _
theorem goodA_tasks {l : List AgEl} (h : goodA l = true) : Tasks (needA l) (everyA l) l.length :=
  ⟨fun _ hi => (goodA_mem h (getA_mem hi)).1, fun _ hi => (goodA_mem h (getA_mem hi)).2⟩
/-- How long a task takes at most; -1 for too long. -/
def longA (l : List AgEl) (k : Nat) : Int := longC (needA l) (everyA l) k
def allA (l : List AgEl) : Bool := (List.range l.length).all fun k => decide (0 ≤ longA l k ∧ longA l k ≤ everyA l k)
theorem allA_iff {l : List AgEl} (h : goodA l = true) : allA l = true ↔ InT (needA l) (everyA l) l.length := by
  rw [← inT_iff (goodA_tasks h)]
  unfold allA
  rw [List.all_eq_true]
  constructor
  · intro hh k hk
    have := hh k (List.mem_range.2 hk)
    rw [decide_eq_true_eq] at this
    exact this
  · intro hh k hk
    rw [decide_eq_true_eq]
    exact hh k (List.mem_range.1 hk)
/-- The numbers by how often they come, and the tasks in that order. -/
def byRateL (l : List AgEl) : List Nat := byEnd (everyA l) l.length
def sortA (l : List AgEl) : List AgEl := (byRateL l).map fun k => l.getD k (0, 0)
theorem sortA_len (l : List AgEl) : (sortA l).length = l.length := by rw [sortA, List.length_map, byRateL, byEnd_len]
theorem range_map (l : List AgEl) : (List.range l.length).map (fun k => l.getD k (0, 0)) = l := by
  apply List.ext_getElem
  · simp
  · intro i h1 h2
    simp [List.getD_eq_getElem?_getD, h2]
theorem sortA_perm (l : List AgEl) : (sortA l).Perm l := by
  have := (byEnd_perm (everyA l) l.length).map fun k => l.getD k (0, 0)
  rw [range_map] at this
  exact this
theorem sortA_good {l : List AgEl} (h : goodA l = true) : goodA (sortA l) = true := by
  unfold goodA
  rw [Bool.and_eq_true, List.all_eq_true, decide_eq_true_eq, sortA_len]
  refine ⟨fun x hx => ?_, goodA_len h⟩
  have := goodA_mem h ((sortA_perm l).mem_iff.1 hx)
  unfold againB
  rw [Bool.and_eq_true, decide_eq_true_eq, decide_eq_true_eq]
  exact this
theorem sortA_get (l : List AgEl) {i : Nat} (hi : i < l.length) : (sortA l).getD i (0, 0) = l.getD ((byRateL l).getD i 0) (0, 0) := by
  have h1 : i < (byRateL l).length := by rw [byRateL, byEnd_len]; exact hi
  simp [sortA, List.getD_eq_getElem?_getD, h1]
theorem inT_congr {C C' T T' : Nat → Int} {n : Nat} (hc : ∀ i, i < n → C' i = C i) (ht : ∀ i, i < n → T' i = T i) (h : InT C T n) : InT C' T' n := by
  intro k hk
  obtain ⟨r, h0, h1, h2⟩ := h k hk
  refine ⟨r, h0, by rw [ht k hk]; exact h1, ?_⟩
  have e : fR C' T' k r = fR C T k r := by
    unfold fR
    rw [hc k hk, sumI_congr (f := fun i => C' i * cl r (T' i)) (g := fun i => C i * cl r (T i)) k fun i hi => by rw [hc i (by omega), ht i (by omega)]]
  rw [e]
  exact h2
theorem rate_best {l : List AgEl} (h : goodA l = true) (ha : allA l = true) : allA (sortA l) = true := by
  rw [allA_iff (sortA_good h), sortA_len]
  rw [allA_iff h] at ha
  exact inT_congr (fun i hi => congrArg Prod.fst (sortA_get l hi)) (fun i hi => congrArg Prod.snd (sortA_get l hi)) (rates (goodA_tasks h) ha (byEnd_perm _ _) (byEnd_ends _ _))
def pairsA (l : List AgEl) : List (Nat × Nat) := l.map fun x => (x.1.toNat, x.2.toNat)
theorem pairs_pos {l : List AgEl} (h : goodA l = true) : ∀ x, x ∈ pairsA l → 0 < x.2 := by
  intro x hx
  obtain ⟨y, hy, rfl⟩ := List.mem_map.1 hx
  have := goodA_mem h hy
  show 0 < y.2.toNat
  omega
theorem load_same {l : List AgEl} (h : goodA l = true) : loadF (pairsA (sortA l)) = loadF (pairsA l) :=
  load_perm ((sortA_perm l).map _) (pairs_pos (sortA_good h))
theorem sumQ_eq (r : Int) (h0 : 0 ≤ r) : ∀ (l : List AgEl), (∀ x, x ∈ l → 1 ≤ x.1 ∧ 1 ≤ x.2) → (sumQ (fun t => (cl r (t : Int)).toNat) (pairsA l) : Int) = sumL (fun k => (l.getD k (0, 0)).1 * cl r (l.getD k (0, 0)).2) (List.range l.length)
  | [], _ => rfl
  | x :: l, h => by
    have ih := sumQ_eq r h0 l fun y hy => h y (List.mem_cons_of_mem _ hy)
    obtain ⟨h1, h2⟩ := h x (by simp)
    have hc := cl_nonneg h2 h0
    have e1 : ((x.1.toNat : Nat) : Int) = x.1 := by omega
    have e2 : ((x.2.toNat : Nat) : Int) = x.2 := by omega
    have hs : sumL (fun k => ((x :: l).getD k (0, 0)).1 * cl r ((x :: l).getD k (0, 0)).2) (List.range (x :: l).length) = x.1 * cl r x.2 + sumL (fun k => (l.getD k (0, 0)).1 * cl r (l.getD k (0, 0)).2) (List.range l.length) := by
      rw [List.length_cons, List.range_succ_eq_map]
      simp only [sumL]
      congr 1
      have : ∀ L : List Nat, sumL (fun k => ((x :: l).getD k (0, 0)).1 * cl r ((x :: l).getD k (0, 0)).2) (L.map Nat.succ) = sumL (fun k => (l.getD k (0, 0)).1 * cl r (l.getD k (0, 0)).2) L := by
        intro L
        induction L with
        | nil => rfl
        | cons a L ih => simp only [List.map_cons, sumL, ih]; rfl
      exact this _
    rw [hs]
    show ((sumQ _ (pairsA l) + x.1.toNat * (cl r ((x.2.toNat : Nat) : Int)).toNat : Nat) : Int) = _
    rw [Int.natCast_add, ih, Int.natCast_mul, e1, e2]
    have e3 : (((cl r x.2).toNat : Nat) : Int) = cl r x.2 := by omega
    rw [e3]
    omega
theorem sumI_range (g : Nat → Int) : ∀ n, sumI g n = sumL g (List.range n)
  | 0 => rfl
  | n + 1 => by
    rw [List.range_succ, sumL_app, ← sumI_range g n]
    simp [sumI, sumL]
theorem load_one {l : List AgEl} (h : goodA l = true) (ha : allA l = true) : (loadF (pairsA l)).1 ≤ (loadF (pairsA l)).2 := by
  rcases Nat.eq_zero_or_pos l.length with hz | hz
  · have : l = [] := List.eq_nil_of_length_eq_zero hz
    subst this
    decide
  · obtain ⟨r, h1, h2⟩ := inT_all (goodA_tasks h) ((allA_iff h).1 ha) hz
    obtain ⟨R, rfl⟩ : ∃ R : Nat, r = R := ⟨r.toNat, by omega⟩
    have hq := sumQ_eq R (by omega) l fun x hx => by have := goodA_mem h hx; omega
    have h2' : sumL (fun k => (l.getD k (0, 0)).1 * cl R (l.getD k (0, 0)).2) (List.range l.length) ≤ R := by rw [← sumI_range]; exact h2
    have hle := load_le (r := R) (q := fun t => (cl (R : Int) (t : Int)).toNat) (pairsA l).reverse fun x hx => by
      rw [List.mem_reverse] at hx
      have hp := pairs_pos h x hx
      refine ⟨hp, ?_⟩
      have hg := cl_ge (r := (R : Int)) (t := (x.2 : Int)) (by omega)
      have hn := cl_nonneg (r := (R : Int)) (t := (x.2 : Int)) (by omega) (by omega)
      have e : ((x.2 * (cl (R : Int) (x.2 : Int)).toNat : Nat) : Int) = (x.2 : Int) * cl (R : Int) (x.2 : Int) := by rw [Int.natCast_mul]; congr 1; omega
      omega
    rw [List.reverse_reverse] at hle
    have hrev : sumQ (fun t => (cl (R : Int) (t : Int)).toNat) (pairsA l).reverse = sumQ (fun t => (cl (R : Int) (t : Int)).toNat) (pairsA l) := by
      have : ∀ (q : Nat → Nat) (L M : List (Nat × Nat)), sumQ q (L ++ M) = sumQ q L + sumQ q M := by
        intro q L M
        induction L with
        | nil => simp [sumQ]
        | cons a L ih => simp only [List.cons_append, sumQ, ih]; omega
      generalize pairsA l = L
      induction L with
      | nil => rfl
      | cons a L ih => rw [List.reverse_cons, this, ih]; simp [sumQ]
    rw [hrev] at hle
    have hS : sumQ (fun t => (cl (R : Int) (t : Int)).toNat) (pairsA l) ≤ R := by omega
    have h3 := Nat.le_trans hle (Nat.mul_le_mul_left _ hS)
    rw [Nat.mul_comm R] at h3
    exact Nat.le_of_mul_le_mul_right h3 (by omega)
end Go.Proofs.Ytmcmkobdkkibkab
