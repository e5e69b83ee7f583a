/-
  The rows that a burst hits: plain arithmetic.
-/
import Derived.Test.YthmkeinhjlmgmadPcMath
namespace Go.Proofs.Ythmkeinhjlmgmad

def withB (many frm long : Int) : Bool := decide (0 ≤ frm ∧ 0 ≤ long ∧ long ≤ many - frm)
/-- Whether one of the first l places from f on is of row r. -/
def hitU (d f l r : Nat) : Bool := (List.range l).any fun i => (f + i) % d == r
theorem hitU_succ (d f l r : Nat) : hitU d f (l + 1) r = (hitU d f l r || (f + l) % d == r) := by simp [hitU, List.range_succ]
theorem hitU_iff (d f l r : Nat) : hitU d f l r = true ↔ ∃ i, i < l ∧ (f + i) % d = r := by simp [hitU]
def rowsU (d f l r : Nat) : List Int := ((List.range r).filter (hitU d f l)).map fun (x : Nat) => (x : Int)
theorem rowsU_zero (d f l : Nat) : rowsU d f l 0 = [] := by simp [rowsU]
theorem rowsU_succ (d f l r : Nat) : rowsU d f l (r + 1) = rowsU d f l r ++ (bif hitU d f l r then [(r : Int)] else []) := by
  unfold rowsU
  rw [List.range_succ, List.filter_append, List.map_append]
  cases h : hitU d f l r <;> simp [h]
theorem rowsU_len (d f l r : Nat) : (rowsU d f l r).length ≤ r := by
  unfold rowsU
  rw [List.length_map]
  exact Nat.le_trans (List.length_filter_le _ _) (by simp)
theorem rowsU_mem (d f l r : Nat) (x : Int) : x ∈ rowsU d f l r ↔ ∃ k : Nat, x = (k : Int) ∧ k < r ∧ hitU d f l k = true := by
  unfold rowsU
  rw [List.mem_map]
  constructor
  · rintro ⟨k, hk, rfl⟩
    rw [List.mem_filter, List.mem_range] at hk
    exact ⟨k, rfl, hk⟩
  · rintro ⟨k, rfl, h⟩
    exact ⟨k, by rw [List.mem_filter, List.mem_range]; exact h, rfl⟩
theorem rowsU_rising (d f l r : Nat) : (rowsU d f l r).Pairwise (· < ·) := by
  unfold rowsU
  rw [List.pairwise_map]
  refine List.Pairwise.imp (R := fun a b : Nat => a < b) (fun h => by omega) ?_
  exact List.Pairwise.sublist List.filter_sublist List.pairwise_lt_range
def hitB (many deep frm long : Int) : Bool := deepB many deep && withB many frm long
def hitL (many deep frm long : Int) : List Int := if hitB many deep frm long then rowsU deep.toNat frm.toNat long.toNat deep.toNat else []
theorem hitL_len (many deep frm long : Int) : (hitL many deep frm long).length ≤ 12 := by
  unfold hitL
  cases h : hitB many deep frm long
  · simp
  · simp only [if_true]
    refine Nat.le_trans (rowsU_len _ _ _ _) ?_
    simp [hitB, deepB] at h
    omega
theorem hitB_parts {many deep frm long : Int} (h : hitB many deep frm long = true) : ∃ n d f l : Nat, many = n ∧ deep = d ∧ frm = f ∧ long = l ∧ 1 ≤ d ∧ d ≤ 12 ∧ n ≤ 120 ∧ f + l ≤ n := by
  simp [hitB, deepB, withB] at h
  exact ⟨many.toNat, deep.toNat, frm.toNat, long.toNat, by omega, by omega, by omega, by omega, by omega, by omega, by omega, by omega⟩
end Go.Proofs.Ythmkeinhjlmgmad
