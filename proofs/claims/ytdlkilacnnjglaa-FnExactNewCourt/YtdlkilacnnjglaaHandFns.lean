/-
  Chores for hands: when they are good, and as plain numbers.
-/
import Derived.Test.YtdlkilacnnjglaaByMath
import Derived.Test.YtdlkilacnnjglaaHandMath
namespace Go.Proofs.Ytdlkilacnnjglaa
open Go.RowKit

def inB (lo hi : Int) : Int → Bool := fun k => decide (lo ≤ k ∧ k ≤ hi)
/-- At most eight chores, each 1 to 50 long, one to four hands. -/
def chB (xs : List Int) (h : Int) : Bool := decide (1 ≤ h ∧ h ≤ 4) && decide (xs.length ≤ 8) && xs.all (inB 1 50)
/-- The same as natural numbers. -/
structure Chores (ls : List Nat) (H : Nat) : Prop where
  few : ls.length ≤ 8
  size : ∀ k, k < ls.length → 1 ≤ ls.getD k 0 ∧ ls.getD k 0 ≤ 50
  h0 : 1 ≤ H
  h4 : H ≤ 4
theorem ofN_toNat {xs : List Int} (h : ∀ x, x ∈ xs → 0 ≤ x) : xs = ofN (xs.map Int.toNat) := by
  induction xs with
  | nil => rfl
  | cons x xs ih =>
    have h0 := h x (List.mem_cons_self ..)
    have := ih fun y hy => h y (List.mem_cons_of_mem _ hy)
    simp only [ofN, List.map_cons, List.map_map] at this ⊢
    congr 1
    omega
theorem ofN_at (a : List Nat) (i : Nat) : (ofN a).getD i 0 = ((a.getD i 0 : Nat) : Int) := by
  by_cases h : i < a.length
  · simp [ofN, List.getD_eq_getElem?_getD, h]
  · simp [ofN, List.getD_eq_getElem?_getD, h]
theorem chores_of {xs : List Int} {h : Int} (hg : chB xs h = true) : ∃ ls H, xs = ofN ls ∧ h = (H : Nat) ∧ Chores ls H := by
  unfold chB at hg
  simp only [Bool.and_eq_true, decide_eq_true_eq, List.all_eq_true, inB] at hg
  obtain ⟨⟨⟨h1, h2⟩, h3⟩, h4⟩ := hg
  have e := ofN_toNat fun x hx => by have := h4 x hx; omega
  have hlen : (xs.map Int.toNat).length = xs.length := List.length_map ..
  refine ⟨xs.map Int.toNat, h.toNat, e, by omega, by rw [hlen]; exact h3, fun k hk => ?_, by omega, by omega⟩
  have hk' : k < xs.length := by omega
  have := h4 xs[k] (List.getElem_mem hk')
  simp only [List.getD_eq_getElem?_getD, List.getElem?_map, List.getElem?_eq_getElem hk', Option.map_some, Option.getD_some]
  omega
theorem chores_good {ls : List Nat} {H : Nat} (h : Chores ls H) : chB (ofN ls) (H : Nat) = true := by
  unfold chB
  simp only [Bool.and_eq_true, decide_eq_true_eq, List.all_eq_true, inB]
  have h0 := h.h0
  have h4 := h.h4
  refine ⟨⟨⟨by omega, by omega⟩, by rw [List.length_map]; exact h.few⟩, fun x hx => ?_⟩
  obtain ⟨k, hk, rfl⟩ := List.mem_map.1 hx
  obtain ⟨i, hi, rfl⟩ := List.getElem_of_mem hk
  have := h.size i hi
  rw [List.getD_eq_getElem?_getD, List.getElem?_eq_getElem hi, Option.getD_some] at this
  omega
/-- The hands of chores, one a chore. -/
def giB (xs gs : List Int) (h : Int) : Bool := chB xs h && decide (gs.length = xs.length) && gs.all (inB 0 (h - 1))
structure Given (ls gs : List Nat) (H : Nat) : Prop where
  len : gs.length = ls.length
  lt : ∀ k, k < ls.length → gs.getD k 0 < H
theorem given_of {xs gs : List Int} {h : Int} (hg : giB xs gs h = true) : ∃ ls os H, xs = ofN ls ∧ gs = ofN os ∧ h = (H : Nat) ∧ Chores ls H ∧ Given ls os H := by
  unfold giB at hg
  simp only [Bool.and_eq_true, decide_eq_true_eq] at hg
  obtain ⟨⟨h1, h2⟩, h3⟩ := hg
  obtain ⟨ls, H, rfl, rfl, hc⟩ := chores_of h1
  simp only [List.all_eq_true, inB, decide_eq_true_eq] at h3
  have e := ofN_toNat fun x hx => (h3 x hx).1
  have hlen : (gs.map Int.toNat).length = gs.length := List.length_map ..
  rw [List.length_map] at h2
  refine ⟨ls, gs.map Int.toNat, H, rfl, e, rfl, hc, by omega, fun k hk => ?_⟩
  have hk' : k < gs.length := by omega
  have := h3 gs[k] (List.getElem_mem hk')
  simp only [List.getD_eq_getElem?_getD, List.getElem?_map, List.getElem?_eq_getElem hk', Option.map_some, Option.getD_some]
  omega
theorem given_good {ls gs : List Nat} {H : Nat} (hc : Chores ls H) (h : Given ls gs H) : giB (ofN ls) (ofN gs) (H : Nat) = true := by
  unfold giB
  simp only [Bool.and_eq_true, decide_eq_true_eq, chores_good hc, true_and]
  refine ⟨by rw [List.length_map, List.length_map]; exact h.len, ?_⟩
  simp only [List.all_eq_true, inB, decide_eq_true_eq]
  intro x hx
  obtain ⟨k, hk, rfl⟩ := List.mem_map.1 hx
  obtain ⟨i, hi, rfl⟩ := List.getElem_of_mem hk
  have := h.lt i (by rw [← h.len]; exact hi)
  rw [List.getD_eq_getElem?_getD, List.getElem?_eq_getElem hi, Option.getD_some] at this
  omega
/-- No more on a hand than all together. -/
theorem span_small {ls gs : List Nat} {H : Nat} (hc : Chores ls H) (i : Nat) (hi : i ≤ ls.length) : ∀ h, (spanP ls gs H i).getD h 0 ≤ 50 * i := by
  induction i with
  | zero => intro h; simp only [spanP, repl_getD]; omega
  | succ i ih =>
    intro h
    have := ih (by omega) h
    have hs := hc.size i (by omega)
    simp only [spanP]
    unfold addAt
    rw [getD_setH]
    split
    · have := ih (by omega) (gs.getD i 0); omega
    · omega
theorem give_small {ls : List Nat} {H : Nat} (hc : Chores ls H) (ks : List Nat) (hk : ∀ k, k ∈ ks → k < ls.length) (i : Nat) (hi : i ≤ ks.length) : ∀ h, (giveP ls H ks i).1.getD h 0 ≤ 50 * i := by
  induction i with
  | zero => intro h; simp only [giveP, repl_getD]; omega
  | succ i ih =>
    intro h
    have hlt : i < ks.length := by omega
    have hm : ks.getD i 0 < ls.length := hk _ (by rw [List.getD_eq_getElem?_getD, List.getElem?_eq_getElem hlt]; exact List.getElem_mem hlt)
    have := ih (by omega) h
    have hs := hc.size _ hm
    simp only [giveP, giveStep]
    unfold addAt
    rw [getD_setH]
    split
    · have := ih (by omega) (bestN (fun h => (giveP ls H ks i).1.getD h 0) (giveP ls H ks i).1.length); omega
    · omega
/-- What stands after the first i is the greatest so far. -/
theorem span_most {ls gs : List Nat} {H : Nat} (hg : Given ls gs H) {i : Nat} (hi : i < ls.length) : maxN (spanP ls gs H (i + 1)) = max (maxN (spanP ls gs H i)) ((spanP ls gs H (i + 1)).getD (gs.getD i 0) 0) := by
  have hl := spanP_len ls gs H i
  have hl1 := spanP_len ls gs H (i + 1)
  have hh : gs.getD i 0 < (spanP ls gs H i).length := by rw [hl]; exact hg.lt i hi
  have hat : ∀ j, (spanP ls gs H (i + 1)).getD j 0 = (spanP ls gs H i).getD j 0 + if gs.getD i 0 = j then ls.getD i 0 else 0 := fun j => by simp only [spanP]; exact addAt_getD _ _ j hh
  refine Nat.le_antisymm (maxN_le fun j hj => ?_) (Nat.max_le.2 ⟨maxN_le fun j hj => ?_, maxN_ge _ _⟩)
  · by_cases e : gs.getD i 0 = j
    · rw [e]; exact Nat.le_max_right ..
    · rw [hat, if_neg e]; have := maxN_ge (spanP ls gs H i) j; omega
  · have := maxN_ge (spanP ls gs H (i + 1)) j
    rw [hat] at this; omega
theorem maxN_zero (H : Nat) : maxN (List.replicate H 0) = 0 := by
  have := maxN_le (c := 0) (s := List.replicate H 0) fun h _ => by rw [repl_getD]; exact Nat.le_refl _
  omega
theorem ofN_setI (a : List Nat) (i : Nat) (k : Nat) : (ofN a).set i (k : Int) = ofN (a.set i k) := by simp [ofN, List.map_set]
end Go.Proofs.Ytdlkilacnnjglaa
