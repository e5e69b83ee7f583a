/-
  Numbers that are taken out of a row, those behind them moved ahead: plain facts on lists and on the memory.
-/
import Derived.Test.YtpkngcamaahhdabIRows
import Derived.Test.YtpkngcamaahhdabMooreMath
import Derived.Lib.SliceRun
import Derived.Laws.IdiomCopy
namespace Go.Proofs.Ytpkngcamaahhdab
open Go.RowKit

/-- What is left of a list where those with P are taken out. -/
abbrev leftL (P : Nat → Bool) (us : List Nat) : List Nat := us.filter fun k => !P k
/-- Of the first j those that are left stand ahead, i of them; from j on all is as it was. -/
structure Cut (us : List Nat) (P : Nat → Bool) (cs : List Int) (i j : Nat) : Prop where
  len : cs.length = us.length
  front : cs.take i = ofN (leftL P (us.take j))
  many : (leftL P (us.take j)).length = i
  back : ∀ k, j ≤ k → cs.getD k 0 = (us.getD k 0 : Nat)
  lt : i < j
  le : j ≤ us.length
theorem take_one {us : List Nat} {j : Nat} (h : j < us.length) : us.take (j + 1) = us.take j ++ [us.getD j 0] := by
  rw [List.take_succ_eq_append_getElem h]
  simp [List.getD_eq_getElem?_getD, h]
theorem cut_drop {us : List Nat} {P : Nat → Bool} {cs : List Int} {i j : Nat} (h : Cut us P cs i j) (hj : j < us.length) (hp : P (us.getD j 0) = true) : Cut us P cs i (j + 1) := by
  have e : leftL P (us.take (j + 1)) = leftL P (us.take j) := by
    rw [take_one hj]
    unfold leftL
    rw [List.filter_append, List.filter_cons_of_neg (by simp only [hp]; decide), List.filter_nil, List.append_nil]
  exact ⟨h.len, by rw [e]; exact h.front, by rw [e]; exact h.many, fun k hk => h.back k (by omega), by have := h.lt; omega, by omega⟩
theorem cut_keep {us : List Nat} {P : Nat → Bool} {cs : List Int} {i j : Nat} (h : Cut us P cs i j) (hj : j < us.length) (hp : P (us.getD j 0) = false) : Cut us P (cs.set i (us.getD j 0 : Nat)) (i + 1) (j + 1) := by
  have hlt := h.lt
  have hl := h.len
  have e : leftL P (us.take (j + 1)) = leftL P (us.take j) ++ [us.getD j 0] := by
    rw [take_one hj]
    unfold leftL
    rw [List.filter_append, List.filter_cons_of_pos (by simp only [hp]; decide), List.filter_nil]
  refine ⟨by simpa using h.len, ?_, by rw [e, List.length_append, h.many]; rfl, fun k hk => ?_, by omega, by omega⟩
  · rw [e, ofN, List.map_append, ← ofN, ← h.front]
    rw [List.take_succ_eq_append_getElem (by rw [List.length_set]; omega), List.take_set_of_le (Nat.le_refl _)]
    simp
  · rw [← h.back k (by omega)]
    simp [List.getD_eq_getElem?_getD, List.getElem?_set_ne (show i ≠ k by omega)]
theorem cut_start {us : List Nat} {P : Nat → Bool} {i : Nat} (hi : i < us.length) (hp : P (us.getD i 0) = true) (hb : ∀ j, j < i → P (us.getD j 0) = false) : Cut us P (ofN us) i (i + 1) := by
  have e0 : ∀ n, n ≤ i → leftL P (us.take n) = us.take n := by
    intro n hn
    unfold leftL
    rw [List.filter_eq_self]
    intro a ha
    obtain ⟨k, hk, rfl⟩ := List.getElem_of_mem ha
    rw [List.length_take] at hk
    have := hb k (by omega)
    rw [List.getD_eq_getElem?_getD, List.getElem?_eq_getElem (by omega), Option.getD_some] at this
    rw [List.getElem_take, this]
    rfl
  have e : leftL P (us.take (i + 1)) = us.take i := by
    rw [take_one hi]
    unfold leftL
    rw [List.filter_append, List.filter_cons_of_neg (by simp only [hp]; decide), List.filter_nil, List.append_nil]
    exact e0 i (Nat.le_refl _)
  refine ⟨by rw [ofN, List.length_map], by rw [e, ofN, ofN, List.map_take], by rw [e, List.length_take]; omega, fun k _ => ?_, by omega, by omega⟩
  by_cases h : k < us.length
  · simp [ofN, List.getD_eq_getElem?_getD, h]
  · simp [ofN, List.getD_eq_getElem?_getD, h]
theorem left_none {us : List Nat} {P : Nat → Bool} (h : ∀ j, j < us.length → P (us.getD j 0) = false) : leftL P us = us := by
  unfold leftL
  rw [List.filter_eq_self]
  intro a ha
  obtain ⟨k, hk, rfl⟩ := List.getElem_of_mem ha
  have := h k hk
  rw [List.getD_eq_getElem?_getD, List.getElem?_eq_getElem hk, Option.getD_some] at this
  rw [this]
  rfl
/-- Cells of a row are written, from one place on: those ahead stay. -/
theorem irow_cells {g n cap : Nat} : ∀ (zs : List Int) (o : Nat) (xs : List Int) (w : World), IRow w g n cap xs → ∃ xs', IRow (w.setCells g o (kflat zs)) g n cap xs' ∧ xs'.take o = xs.take o
  | [], o, xs, w, h => ⟨xs, h, rfl⟩
  | z :: zs, o, xs, w, h => by
    obtain ⟨xs', h1, h2⟩ := irow_cells zs (o + 1) (xs.set o z) (w.setCell ⟨g, o, none⟩ (.int .i64 z)) (h.set o z)
    refine ⟨xs', h1, ?_⟩
    have h3 := congrArg (List.take o) h2
    rw [List.take_take, List.take_take, Nat.min_eq_left (by omega), List.take_set_of_le (Nat.le_refl _)] at h3
    exact h3
theorem but_cells {P : Nat → Prop} {g : Nat} (hp : P g) : ∀ (vs : List Value) (o : Nat) (a b : World), But P a b → But P a (b.setCells g o vs)
  | [], _, _, _, h => h
  | _ :: vs, o, a, _, h => but_cells hp vs (o + 1) a _ (h.setCell (p := ⟨g, o, none⟩) hp _)
theorem clear_run {w : World} {g n cap : Nat} {xs : List Int} (h : IRow w g n cap xs) (i : Nat) (hi' : i < n) (ty : TypeId) (c : Nat) :
    (Builtin.clear_ #[42] ty #[.slice (some ⟨g, i, none⟩) (n - i) c]).run Try.prog w = .ok (.tuple #[]) (w.setCells g i (kflat (List.replicate (n - i) 0))) := by
  obtain ⟨i0, hi, hz0, hz1, hz2⟩ := info_parts info_int
  have hzv : ∀ w : World, (zeroValue 3).run Try.prog w = .ok (.int .i64 0) w := fun w => by simp [zeroValue, typeInfo, hi, hz0]
  have hst := run_storeCells_cells (P := Try.prog) g i (kflat (List.replicate (n - i) 0)) 0 w (by
      intro j hj
      rw [length_kflat, List.length_replicate] at hj
      rw [Nat.add_zero]
      have := h.cell (i := i + j) (by omega)
      rw [show w.cell? ⟨g, i + j, none⟩ = _ from this]
      rfl) (by
      intro j hj
      rw [Nat.add_zero]
      exact h.free _) (fun v hv => kflat_one _ v hv)
  simp only [Nat.add_zero] at hst
  have hzc : (Builtin.zeroCells (Value.int .i64 0).cells (n - i)).toList = kflat (List.replicate (n - i) 0) := by
    apply List.ext_getElem
    · simp [Builtin.zeroCells, kflat, Value.cells]
    · intro k h1 h2
      simp [Builtin.zeroCells, kflat, Value.cells, Nat.mod_one]
  obtain ⟨m, hm⟩ : ∃ m, n - i = m + 1 := ⟨n - i - 1, by omega⟩
  rw [hm] at hst hzc ⊢
  simp [Builtin.clear_, run_underlying Try.underlying42, hzv, hzc, hst]
end Go.Proofs.Ytpkngcamaahhdab
