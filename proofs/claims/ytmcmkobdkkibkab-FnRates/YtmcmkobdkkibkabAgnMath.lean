/-
  Tasks that come again: how long one takes at most (Liu and Layland; Joseph and Pandya): plain arithmetic, no program.
-/
import Derived.Test.YtmcmkobdkkibkabKAgainRows
namespace Go.Proofs.Ytmcmkobdkkibkab

/-- The first k of numbers added up. -/
def sumI (g : Nat → Int) : Nat → Int
  | 0 => 0
  | k + 1 => sumI g k + g k
theorem sumI_le {f g : Nat → Int} : ∀ k, (∀ i, i < k → f i ≤ g i) → sumI f k ≤ sumI g k
  | 0, _ => Int.le_refl _
  | k + 1, h => by
    have h1 := sumI_le k fun i hi => h i (by omega)
    have h2 := h k (by omega)
    simp only [sumI]
    omega
theorem sumI_congr {f g : Nat → Int} : ∀ k, (∀ i, i < k → f i = g i) → sumI f k = sumI g k
  | 0, _ => rfl
  | k + 1, h => by
    have h1 := sumI_congr k fun i hi => h i (by omega)
    have h2 := h k (by omega)
    simp only [sumI]
    omega
theorem sumI_nonneg {g : Nat → Int} : ∀ k, (∀ i, i < k → 0 ≤ g i) → 0 ≤ sumI g k
  | 0, _ => Int.le_refl _
  | k + 1, h => by
    have h1 := sumI_nonneg k fun i hi => h i (by omega)
    have h2 := h k (by omega)
    simp only [sumI]
    omega
/-- How often a task comes in r units: r divided by how often, up. -/
def cl (r t : Int) : Int := (r + t - 1) / t
theorem cl_mono {r r' t : Int} (ht : 1 ≤ t) (h : r ≤ r') : cl r t ≤ cl r' t := Int.ediv_le_ediv (by omega) (by omega)
theorem cl_ge {r t : Int} (ht : 1 ≤ t) : r ≤ t * cl r t := by
  unfold cl
  have h1 := Int.mul_ediv_add_emod (r + t - 1) t
  have h2 := Int.emod_lt_of_pos (r + t - 1) (show 0 < t by omega)
  omega
theorem cl_one {r t : Int} (h0 : 1 ≤ r) (h : r ≤ t) : cl r t = 1 := by
  unfold cl
  rw [show r + t - 1 = (r - 1) + t * 1 by omega, Int.add_mul_ediv_left _ _ (by omega), Int.ediv_eq_zero_of_lt (by omega) (by omega)]
  rfl
theorem cl_zero {t : Int} (ht : 1 ≤ t) : cl 0 t = 0 := by
  unfold cl
  exact Int.ediv_eq_zero_of_lt (by omega) (by omega)
theorem cl_succ {r t : Int} (ht : 1 ≤ t) : cl (r + 1) t = r / t + 1 := by
  unfold cl
  rw [show r + 1 + t - 1 = r + t * 1 by omega, Int.add_mul_ediv_left _ _ (by omega)]
theorem cl_pos {r t : Int} (ht : 1 ≤ t) (h : 1 ≤ r) : 1 ≤ cl r t := by
  have h1 := cl_mono ht h
  rw [cl_one (Int.le_refl _) ht] at h1
  exact h1
theorem cl_nonneg {r t : Int} (ht : 1 ≤ t) (h : 0 ≤ r) : 0 ≤ cl r t := by
  have h1 := cl_mono ht h
  rw [cl_zero ht] at h1
  exact h1
theorem cl_le {r t b : Int} (ht : 1 ≤ t) (h : r ≤ b) (hb : 1 ≤ b) : cl r t ≤ b := by
  have h1 : 0 ≤ (b - 1) * (t - 1) := Int.mul_nonneg (by omega) (by omega)
  rw [Int.sub_mul, Int.mul_sub, Int.mul_one, Int.one_mul] at h1
  unfold cl
  have h2 : (r + t - 1) / t ≤ (b * t) / t := Int.ediv_le_ediv (by omega) (by omega)
  rw [Int.mul_ediv_cancel _ (by omega)] at h2
  exact h2
/-- One round of the recurrence: its Need, and of each ahead of it its Need as often as it comes. -/
def fR (C T : Nat → Int) (k : Nat) (r : Int) : Int := C k + sumI (fun i => C i * cl r (T i)) k
structure Tasks (C T : Nat → Int) (n : Nat) : Prop where
  need : ∀ i, i < n → 1 ≤ C i ∧ C i ≤ 10
  every : ∀ i, i < n → C i ≤ T i ∧ T i ≤ 40
theorem Tasks.one {C T : Nat → Int} {n : Nat} (h : Tasks C T n) {i : Nat} (hi : i < n) : 1 ≤ T i := by
  have := h.need i hi
  have := h.every i hi
  omega
theorem fR_mono {C T : Nat → Int} {n : Nat} (h : Tasks C T n) {k : Nat} (hk : k < n) {r r' : Int} (hr : r ≤ r') : fR C T k r ≤ fR C T k r' := by
  unfold fR
  have := sumI_le (f := fun i => C i * cl r (T i)) (g := fun i => C i * cl r' (T i)) k fun i hi => Int.mul_le_mul_of_nonneg_left (cl_mono (h.one (by omega)) hr) (by have := h.need i (by omega); omega)
  omega
theorem fR_ge {C T : Nat → Int} {n : Nat} (h : Tasks C T n) {k : Nat} (hk : k < n) {r : Int} (hr : 0 ≤ r) : C k ≤ fR C T k r := by
  unfold fR
  have := sumI_nonneg (g := fun i => C i * cl r (T i)) k fun i hi => Int.mul_nonneg (by have := h.need i (by omega); omega) (cl_nonneg (h.one (by omega)) hr)
  omega
theorem sum_bound {g : Nat → Int} {b : Int} : ∀ k, (∀ i, i < k → g i ≤ b) → sumI g k ≤ b * k
  | 0, _ => by simp [sumI]
  | k + 1, h => by
    have h1 := sum_bound k fun i hi => h i (by omega)
    have h2 := h k (by omega)
    simp only [sumI]
    rw [show ((k + 1 : Nat) : Int) = (k : Int) + 1 by omega, Int.mul_add, Int.mul_one]
    omega
theorem part_in {C T : Nat → Int} {n : Nat} (h : Tasks C T n) {i : Nat} (hi : i < n) {r : Int} (h0 : 0 ≤ r) (hr : r ≤ 200) : 0 ≤ C i * cl r (T i) ∧ C i * cl r (T i) ≤ 2000 := by
  have h1 := h.need i hi
  have h2 := cl_nonneg (h.one hi) h0
  have h3 := cl_le (h.one hi) hr (by omega)
  refine ⟨Int.mul_nonneg (by omega) h2, ?_⟩
  have h4 := Int.mul_le_mul (show C i ≤ 10 by omega) h3 h2 (by omega)
  omega
/-- How long a task takes at most, -1 for too long. -/
def IsLong (C T : Nat → Int) (k : Nat) (v : Int) : Prop :=
  (v = -1 ∧ ∀ r, 0 ≤ r → r ≤ 200 → ¬ fR C T k r ≤ r) ∨ (0 ≤ v ∧ v ≤ 200 ∧ fR C T k v = v ∧ ∀ r, 0 ≤ r → fR C T k r ≤ r → v ≤ r)
theorem isLong_eq {C T : Nat → Int} {k : Nat} {v v' : Int} (h : IsLong C T k v) (h' : IsLong C T k v') : v = v' := by
  rcases h with ⟨rfl, h1⟩ | ⟨h1, h2, h3, h4⟩
  · rcases h' with ⟨rfl, _⟩ | ⟨g1, g2, g3, g4⟩
    · rfl
    · exact absurd (by omega) (h1 v' g1 g2)
  · rcases h' with ⟨rfl, g1⟩ | ⟨g1, g2, g3, g4⟩
    · exact absurd (by omega) (g1 v h1 h2)
    · have := h4 v' g1 (by omega)
      have := g4 v h1 (by omega)
      omega
/-- Where the recurrence stands it is no more than any that it would not leave. -/
def Climb (C T : Nat → Int) (k : Nat) (r : Int) : Prop := 0 ≤ r ∧ r ≤ fR C T k r ∧ ∀ q, 0 ≤ q → fR C T k q ≤ q → r ≤ q
theorem climb_start {C T : Nat → Int} {n : Nat} (h : Tasks C T n) {k : Nat} (hk : k < n) : Climb C T k (C k) := by
  have hc := h.need k hk
  exact ⟨by omega, fR_ge h hk (by omega), fun q h0 hq => by have := fR_ge h hk h0; omega⟩
theorem climb_step {C T : Nat → Int} {n : Nat} (h : Tasks C T n) {k : Nat} (hk : k < n) {r : Int} (hr : Climb C T k r) : Climb C T k (fR C T k r) := by
  obtain ⟨h0, h1, h2⟩ := hr
  exact ⟨by omega, fR_mono h hk h1, fun q g0 gq => by have := fR_mono h hk (h2 q g0 gq); omega⟩
theorem climb_stays {C T : Nat → Int} {k : Nat} {r : Int} (hr : Climb C T k r) (h2 : r ≤ 200) (he : fR C T k r = r) : IsLong C T k r := .inr ⟨hr.1, h2, he, hr.2.2⟩
theorem climb_out {C T : Nat → Int} {k : Nat} {r : Int} (hr : Climb C T k r) (h2 : 200 < r) : IsLong C T k (-1) := .inl ⟨rfl, fun q h0 hq hf => by have := hr.2.2 q h0 hf; omega⟩
def longU (C T : Nat → Int) (k : Nat) : Nat → Int → Int
  | 0, _ => -1
  | m + 1, r => if 200 < r then -1 else if fR C T k r = r then r else longU C T k m (fR C T k r)
theorem longU_is {C T : Nat → Int} {n : Nat} (h : Tasks C T n) {k : Nat} (hk : k < n) : ∀ (m : Nat) (r : Int), Climb C T k r → 201 - r < m → IsLong C T k (longU C T k m r)
  | 0, r, hr, hm => by
    have : 200 < r := by have := hr.1; omega
    exact climb_out hr this
  | m + 1, r, hr, hm => by
    unfold longU
    split
    · rename_i h1; exact climb_out hr h1
    · rename_i h1
      split
      · rename_i h2; exact climb_stays hr (by omega) h2
      · rename_i h2
        have := hr.2.1
        exact longU_is h hk m _ (climb_step h hk hr) (by omega)
def longC (C T : Nat → Int) (k : Nat) : Int := longU C T k 300 (C k)
theorem longC_is {C T : Nat → Int} {n : Nat} (h : Tasks C T n) {k : Nat} (hk : k < n) : IsLong C T k (longC C T k) := longU_is h hk 300 (C k) (climb_start h hk) (by have := h.need k hk; omega)
end Go.Proofs.Ytmcmkobdkkibkab
