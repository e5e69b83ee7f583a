/-
  A small number over 4 or 8 as a float, put right by Floor: the quotient, down. Each number is reckoned by the kernel. Plain arithmetic.
-/
import Derived.Laws.FloatArith
import Derived.Laws.Externs
namespace Go.Proofs.Yteeaebelknpdjbb

def flo9 (x : Nat) : Option Nat := match FloatKind.f64.decode x with
  | .nan _ _ => none
  | .infinity s => some (FloatKind.f64.encode ((Ieee.Datum.infinity s).integral .down))
  | .number s m i => some (FloatKind.f64.encode ((Ieee.Datum.number s m i).integral .down))
/-- The bits of the quotient, of what Floor makes of it, and the number. -/
def quo9 (n e : Nat) : Option (Nat × Nat × Int) := match floatBits .quo .f64 (floatOfInt .f64 n) (floatOfInt .f64 e) with
  | none => none
  | some r => match flo9 r with
    | none => none
    | some y => match floatToIntVal .f64 y .i64 with
      | none => none
      | some q => some (r, y, q)
def isQ (n e : Nat) : Bool := match quo9 n e with
  | none => false
  | some x => decide (x.2.2 = ((n / e : Nat) : Int))
def isQs (e : Nat) : Nat → Nat → Bool
  | 0, _ => true
  | m + 1, k => isQ k e && isQs e m (k + 1)
theorem isQs_at (e : Nat) : ∀ (m k n : Nat), isQs e m k = true → k ≤ n → n < k + m → isQ n e = true
  | 0, k, n, _, h1, h2 => by omega
  | m + 1, k, n, h, h1, h2 => by
    have h' : (isQ k e && isQs e m (k + 1)) = true := h
    rw [Bool.and_eq_true] at h'
    by_cases hk : n = k
    · rw [hk]; exact h'.1
    · exact isQs_at e m (k + 1) n h'.2 (by omega) (by omega)
theorem isQ_out {n e : Nat} (h : isQ n e = true) : ∃ r y, floatBits .quo .f64 (floatOfInt .f64 n) (floatOfInt .f64 e) = some r ∧ flo9 r = some y ∧ floatToIntVal .f64 y .i64 = some ((n / e : Nat) : Int) := by
  unfold isQ quo9 at h
  cases h1 : floatBits .quo .f64 (floatOfInt .f64 n) (floatOfInt .f64 e) with
  | none => rw [h1] at h; simp at h
  | some r =>
    rw [h1] at h
    simp only at h
    cases h2 : flo9 r with
    | none => rw [h2] at h; simp at h
    | some y =>
      rw [h2] at h
      simp only at h
      cases h3 : floatToIntVal .f64 y .i64 with
      | none => rw [h3] at h; simp at h
      | some q =>
        rw [h3] at h
        simp only [decide_eq_true_eq] at h
        exact ⟨r, y, rfl, h2, by rw [h3, h]⟩
end Go.Proofs.Yteeaebelknpdjbb
