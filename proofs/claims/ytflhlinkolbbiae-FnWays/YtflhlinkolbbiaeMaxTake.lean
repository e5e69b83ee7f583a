/-
  The greatest of the first so many, the sum of all: plain arithmetic, no program.
-/
import Derived.Test.YtflhlinkolbbiaeHandFns
import Derived.Test.YtflhlinkolbbiaeFlowFns
namespace Go.Proofs.Ytflhlinkolbbiae
open Go.RowKit

theorem maxN_app (a b : List Nat) : maxN (a ++ b) = max (maxN a) (maxN b) := by
  induction a with
  | nil => simp [maxN]
  | cons x a ih => simp only [List.cons_append, maxN, ih]; omega
theorem maxN_take (s : List Nat) {k : Nat} (hk : k < s.length) : maxN (s.take (k + 1)) = max (maxN (s.take k)) (s.getD k 0) := by
  rw [take_oneH s hk, maxN_app]
  simp [maxN]
/-- The sum of all, as it is added up. -/
def sumAllN (ls : List Nat) : Nat := sumK (fun k => ls.getD k 0) (List.range ls.length)
theorem psum_sumK (ls : List Nat) : ∀ k, psum (fl (ofN ls)) k = ((sumK (fun k => ls.getD k 0) (List.range k) : Nat) : Int)
  | 0 => rfl
  | k + 1 => by
    rw [List.range_succ, sumK_app]
    simp only [psum, psum_sumK ls k, sumK]
    rw [show fl (ofN ls) k = (ofN ls).getD k 0 from rfl, ofN_at]
    omega
theorem sumK_small {ls : List Nat} {H : Nat} (hc : Chores ls H) : ∀ k, k ≤ ls.length → sumK (fun k => ls.getD k 0) (List.range k) ≤ 50 * k
  | 0, _ => Nat.le_refl _
  | k + 1, h => by
    have ih := sumK_small hc k (by omega)
    have := (hc.size k (by omega)).2
    rw [List.range_succ, sumK_app]
    simp only [sumK]; omega
theorem psum_sum (ls : List Nat) : psum (fl (ofN ls)) (ofN ls).length = ((sumAllN ls : Nat) : Int) := by rw [psum_sumK, List.length_map]; rfl
theorem psum_ok {ls : List Nat} {H : Nat} (hc : Chores ls H) : ∀ k, k ≤ (ofN ls).length → 0 ≤ psum (fl (ofN ls)) k ∧ psum (fl (ofN ls)) k ≤ 1000000000 := by
  intro k hk
  rw [List.length_map] at hk
  have := sumK_small hc k hk
  have := hc.few
  rw [psum_sumK]
  omega
theorem sum_is (ls : List Nat) : sumAllN ls = ls.sum := by
  unfold sumAllN
  have : ∀ k, k ≤ ls.length → sumK (fun k => ls.getD k 0) (List.range k) = (ls.take k).sum := by
    intro k
    induction k with
    | zero => intro _; rfl
    | succ k ih =>
      intro hk
      rw [List.range_succ, sumK_app, ih (by omega), take_oneH ls (by omega), List.sum_append]
      simp [sumK]
  rw [this _ (Nat.le_refl _), List.take_length]
/-- What LeastSpan answers. -/
def leZ (xs : List Int) (h : Int) : Int := if chB xs h = true then ((leastN (xs.map Int.toNat) h.toNat : Nat) : Int) else 0
def beZ (xs : List Int) (h : Int) : Int := if chB xs h = true then ((bestB h.toNat (xs.map Int.toNat) (List.replicate h.toNat 0) : Nat) : Int) else 0
theorem toNat_ofN2 (ls : List Nat) : (ofN ls).map Int.toNat = ls := by
  induction ls with
  | nil => rfl
  | cons x ls ih => simp only [ofN, List.map_cons, List.map_map] at ih ⊢; rw [ih]; simp
theorem leZ_yes {ls : List Nat} {H : Nat} (hc : Chores ls H) : leZ (ofN ls) (H : Nat) = ((leastN ls H : Nat) : Int) := by unfold leZ; rw [if_pos (chores_good hc), toNat_ofN2, Int.toNat_natCast]
theorem beZ_yes {ls : List Nat} {H : Nat} (hc : Chores ls H) : beZ (ofN ls) (H : Nat) = ((bestB H ls (List.replicate H 0) : Nat) : Int) := by unfold beZ; rw [if_pos (chores_good hc), toNat_ofN2, Int.toNat_natCast]
theorem leZ_no {xs : List Int} {h : Int} (hc : chB xs h = false) : leZ xs h = 0 := by unfold leZ; rw [hc]; rfl
theorem beZ_no {xs : List Int} {h : Int} (hc : chB xs h = false) : beZ xs h = 0 := by unfold beZ; rw [hc]; rfl
theorem chores_each {ls : List Nat} {H : Nat} (hc : Chores ls H) : ∀ p, p ∈ ls → 1 ≤ p ∧ p ≤ 50 := by
  intro p hp
  obtain ⟨i, hi, rfl⟩ := List.getElem_of_mem hp
  have := hc.size i hi
  rwa [List.getD_eq_getElem?_getD, List.getElem?_eq_getElem hi, Option.getD_some] at this
end Go.Proofs.Ytflhlinkolbbiae
