/-
  Parts of a row of spans. Plain facts.
-/
import Derived.Test.YtnkpboobfkjibakSCloneM
namespace Go.Proofs.Ytnkpboobfkjibak
open Go.RowKit
set_option maxRecDepth 100000

theorem flat_append (xs ys : List Sp) : flat (xs ++ ys) = flat xs ++ flat ys := by simp [flat]
theorem sreads_addr {w : World} {a : Option Addr} {n cap : Nat} {ys : List Sp} (h : SReads w (.slice a n cap) ys) : n = ys.length ∧ (ys = [] ∨ ∃ b off, a = some ⟨b, off, none⟩ ∧ ∀ j u, (flat ys)[j]? = some u → w.cell? ((⟨b, off, none⟩ : Addr).add j) = some u) := by
  obtain ⟨a', cap', e, _, h⟩ := h
  cases e
  refine ⟨rfl, ?_⟩
  rcases h with h | ⟨b, off, rfl, hc⟩
  · exact .inl h
  · exact .inr ⟨b, off, rfl, flat_cells hc⟩
/-- Nothing is appended. -/
theorem nothing_run {w : World} {i0 : TypeInfo} (hi : Try.prog.info? 80 = some i0) (hsz : i0.size = 2) (ty : TypeId) (ao : Option Addr) (n c : Nat) (hle : n ≤ c) (a : Option Addr) (cy : Nat) :
    (Builtin.append_ #[35, 35] ty #[.slice ao n c, .slice a 0 cy]).run Try.prog w = .ok (.slice ao n c) w := by
  refine run_append_nothing _ _ _ _ _ i0 Try.underlying35 hi _ _ _ hle _ ?_
  rw [hsz]
  cases a with
  | none => exact Src.ofNil _ Try.underlying35 cy
  | some ad => exact Src.ofSlice _ Try.underlying35 ad 0 cy [] rfl (by intro j u h; simp at h) (by intro u h; simp at h)

theorem flat_drop (xs : List Sp) (k : Nat) : flat (xs.drop k) = (flat xs).drop (k * 2) := by
  induction xs generalizing k with
  | nil => simp [flat]
  | cons x xs ih =>
    cases k with
    | zero => rfl
    | succ k =>
      rw [List.drop_succ_cons, ih, show (k + 1) * 2 = k * 2 + 1 + 1 by omega]
      rfl
theorem flat_take (xs : List Sp) (k : Nat) : flat (xs.take k) = (flat xs).take (k * 2) := by
  induction xs generalizing k with
  | nil => simp [flat]
  | cons x xs ih =>
    cases k with
    | zero => rfl
    | succ k =>
      rw [List.take_succ_cons, show (k + 1) * 2 = k * 2 + 1 + 1 by omega]
      show _ :: _ :: flat (xs.take k) = _ :: _ :: (flat xs).take (k * 2)
      rw [ih]
theorem add_lit' (g o j : Nat) : (⟨g, o, none⟩ : Addr).add j = ⟨g, o + j, none⟩ := by rcases j with _ | j <;> simp [Addr.add]
theorem cells_drop {w : World} {g : Nat} {xs : List Sp} (h : ∀ j u, (flat xs)[j]? = some u → w.cell? ⟨g, j, none⟩ = some u) (k : Nat) : ∀ j u, (flat (xs.drop k))[j]? = some u → w.cell? ((⟨g, k * 2, none⟩ : Addr).add j) = some u := by
  intro j u hj
  rw [flat_drop, List.getElem?_drop] at hj
  rw [add_lit']
  exact h _ _ hj
theorem cells_take {w : World} {g : Nat} {xs : List Sp} (h : ∀ j u, (flat xs)[j]? = some u → w.cell? ⟨g, j, none⟩ = some u) (k : Nat) : ∀ j u, (flat (xs.take k))[j]? = some u → w.cell? ((⟨g, 0, none⟩ : Addr).add j) = some u := by
  intro j u hj
  rw [flat_take, List.getElem?_take] at hj
  rw [add_lit', Nat.zero_add]
  split at hj
  · exact h _ _ hj
  · cases hj
theorem cells_grown {w w' : World} {g : Nat} {cs : List Value} (h : ∀ j u, cs[j]? = some u → w.cell? ⟨g, j, none⟩ = some u) (hb : Below w.heap.size w w') : ∀ j u, cs[j]? = some u → w'.cell? ⟨g, j, none⟩ = some u := fun j u hj =>
  (hb.cell (p := ⟨g, j, none⟩) (lt_of_cell (h j u hj))).trans (h j u hj)
/-- A part of a row of one's own, without room behind it. -/
theorem sown_part {base g : Nat} {w : World} {xs : List Sp} {cur : Array Value} {t : TypeId} (hh : w.heap[g]? = some (.cells cur t (0, 0))) (ht : cur.toList.take (xs.length * 2) = flat xs) (hg : base ≤ g) (k c : Nat) (hk : k ≤ xs.length) (hkc : k ≤ c) (hl : xs.length ≤ 1048576) : SOwn base w (.slice (some ⟨g, 0, none⟩) k c) (xs.take k) := by
  have e : (xs.take k).length = k := by simp; omega
  refine ⟨by omega, .inr ⟨g, c, by rw [e], ⟨hg, by omega⟩, fun i hi => ?_⟩⟩
  rw [e] at hi
  have hi' : i < xs.length := by omega
  have := own_cells hh ht (Nat.le_refl _) i hi'
  rw [show (xs.take k).getD i (0, 0) = xs.getD i (0, 0) by rw [List.getD_eq_getElem?_getD, List.getD_eq_getElem?_getD, List.getElem?_take, if_pos hi]]
  exact this

end Go.Proofs.Ytnkpboobfkjibak
