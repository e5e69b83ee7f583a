/-
  Things of a row that are numbered one behind the other. Plain facts on lists, and on what is touched.
-/
import Derived.Test.YtnkpboobfkjibalRp
namespace Go.Proofs.Ytnkpboobfkjibal
open Go.RowKit
variable {α : Type}

def preC (c : α → Nat) (xs : List α) (i : Nat) : Nat := ((xs.take i).map c).sum
theorem preC_zero (c : α → Nat) (xs : List α) : preC c xs 0 = 0 := by simp [preC]
theorem preC_succ (c : α → Nat) (xs : List α) (i : Nat) (h : i < xs.length) (z : α) : preC c xs (i + 1) = preC c xs i + c (xs.getD i z) := by
  unfold preC
  rw [List.take_succ_eq_append_getElem h, List.map_append, List.sum_append]
  simp [List.getD_eq_getElem?_getD, h]
theorem preC_le (c : α → Nat) (xs : List α) : ∀ i j, i ≤ j → j ≤ xs.length → preC c xs i ≤ preC c xs j
  | i, 0, h, _ => by obtain rfl : i = 0 := by omega
                     exact Nat.le_refl _
  | i, j + 1, h, hj => by
    by_cases e : i = j + 1
    · rw [e]; exact Nat.le_refl _
    · have h1 := preC_le c xs i j (by omega) (by omega)
      have h2 := preC_succ c xs j (by omega) (xs[j]'(by omega))
      omega
theorem preC_el (c : α → Nat) (xs : List α) (i : Nat) (h : i < xs.length) (z : α) : preC c xs i + c (xs.getD i z) ≤ preC c xs xs.length := by
  rw [← preC_succ c xs i h z]
  exact preC_le c xs (i + 1) xs.length (by omega) (Nat.le_refl _)
theorem preC_const (c : α → Nat) (n : Nat) (hc : ∀ x, c x = n) (xs : List α) (i : Nat) (h : i ≤ xs.length) : preC c xs i = n * i := by
  induction i with
  | zero => simp [preC]
  | succ i ih => rw [preC_succ c xs i (by omega) (xs[i]'(by omega)), ih (by omega), hc, Nat.mul_succ]
def markL (mk : Int → α → α) (c : α → Nat) : Int → List α → List α
  | _, [] => []
  | k, x :: xs => mk k x :: markL mk c (k + (c x : Nat)) xs
theorem length_markL (mk : Int → α → α) (c : α → Nat) : ∀ (k : Int) (xs : List α), (markL mk c k xs).length = xs.length
  | _, [] => rfl
  | k, x :: xs => by simp [markL, length_markL mk c _ xs]
theorem markL_get (mk : Int → α → α) (c : α → Nat) (z : α) : ∀ (k : Int) (xs : List α) (i : Nat), i < xs.length → (markL mk c k xs).getD i z = mk (k + (preC c xs i : Nat)) (xs.getD i z)
  | _, [], _, h => by simp at h
  | k, x :: xs, 0, _ => by simp [markL, preC]
  | k, x :: xs, i + 1, h => by
    have := markL_get mk c z (k + (c x : Nat)) xs i (by simpa using h)
    simp only [markL, List.getD_cons_succ]
    rw [this]
    congr 1
    simp only [preC, List.take_succ_cons, List.map_cons, List.sum_cons]
    omega
theorem markL_snoc (mk : Int → α → α) (c : α → Nat) : ∀ (k : Int) (xs : List α) (y : α), markL mk c k (xs ++ [y]) = markL mk c k xs ++ [mk (k + ((xs.map c).sum : Nat)) y]
  | k, [], y => by simp [markL]
  | k, x :: xs, y => by
    simp only [List.cons_append, markL, List.map_cons, List.sum_cons]
    rw [markL_snoc mk c _ xs y]
    congr 4
    omega
/-- The first j of xs numbered, the others as they were. -/
def markP (mk : Int → α → α) (c : α → Nat) (k : Int) (xs : List α) (j : Nat) : List α := markL mk c k (xs.take j) ++ xs.drop j
theorem length_markP (mk : Int → α → α) (c : α → Nat) (k : Int) (xs : List α) (j : Nat) (h : j ≤ xs.length) : (markP mk c k xs j).length = xs.length := by simp [markP, length_markL]; omega
theorem markP_zero (mk : Int → α → α) (c : α → Nat) (k : Int) (xs : List α) : markP mk c k xs 0 = xs := by simp [markP, markL]
theorem markP_all (mk : Int → α → α) (c : α → Nat) (k : Int) (xs : List α) : markP mk c k xs xs.length = markL mk c k xs := by simp [markP]
theorem markP_get (mk : Int → α → α) (c : α → Nat) (k : Int) (xs : List α) (j : Nat) (h : j < xs.length) (z : α) : (markP mk c k xs j).getD j z = xs.getD j z := by
  unfold markP
  rw [List.getD_eq_getElem?_getD, List.getElem?_append_right (by rw [length_markL, List.length_take]; omega), length_markL, List.length_take, Nat.min_eq_left (by omega), Nat.sub_self]
  simp [List.getD_eq_getElem?_getD]
theorem markP_step (mk : Int → α → α) (c : α → Nat) (k : Int) (xs : List α) (j : Nat) (h : j < xs.length) (z : α) : (markP mk c k xs j).set j (mk (k + (preC c xs j : Nat)) (xs.getD j z)) = markP mk c k xs (j + 1) := by
  have e : xs.drop j = xs[j] :: xs.drop (j + 1) := List.drop_eq_getElem_cons h
  have hl : (markL mk c k (xs.take j)).length = j := by rw [length_markL, List.length_take]; omega
  have hx : xs.getD j z = xs[j] := by simp [List.getD_eq_getElem?_getD, h]
  unfold markP
  rw [e, List.set_append_right _ _ (by omega), hl, Nat.sub_self, List.set_cons_zero, List.take_succ_eq_append_getElem h, markL_snoc, List.append_assoc, hx]
  rfl
theorem RowO.onlyS {τ : Rp α} {S S' : Nat → Prop} {w w' : World} {v : Value} {xs : List α} (h : RowO τ S w v xs) (ho : OnlyS S' w w') (hd : ∀ g, S g → S' g → False) : RowO τ S w' v xs := h.only ho hd
theorem OnlyS.refl (S : Nat → Prop) (w : World) : OnlyS S w w := fun _ _ _ => rfl
theorem OnlyS.trans {S : Nat → Prop} {a b c : World} (h : OnlyS S a b) (k : OnlyS S b c) (hs : a.heap.size ≤ b.heap.size) : OnlyS S a c := fun j hj hn => (k j (by omega) hn).trans (h j hj hn)
theorem OnlyS.mono {S S' : Nat → Prop} {a b : World} (h : OnlyS S a b) (hs : ∀ g, S g → S' g) : OnlyS S' a b := fun j hj hn => h j hj fun q => hn (hs j q)
theorem OnlyS.of_below {S : Nat → Prop} {a b : World} (h : Below a.heap.size a b) : OnlyS S a b := fun j hj _ => h.block j hj
theorem OnlyS.setCell {S : Nat → Prop} (w : World) (p : Addr) (hp : S p.block) (u : Value) : OnlyS S w (w.setCell p u) := fun _ _ hn => Below.heap_setCell _ _ _ _ (fun e => hn (e ▸ hp))
/-- What may be touched by a thing's row, all from lo on. -/
theorem OnlyS.toBelow {S : Nat → Prop} {w w' : World} {lo : Nat} (h : OnlyS S w w') (hb : Below 0 w w') (hlo : ∀ g, S g → lo ≤ g) (hw : lo ≤ w.heap.size) : Below lo w w' :=
  ⟨hb.os, hb.tape, hb.output, hb.size, fun k hk => h k (by omega) fun q => by have := hlo k q; omega⟩
end Go.Proofs.Ytnkpboobfkjibal
