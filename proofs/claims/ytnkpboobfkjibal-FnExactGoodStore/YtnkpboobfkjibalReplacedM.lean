/-
  Parts of a row of spans. Plain facts.
  Small facts on rows of spans that are being made. No program.
-/
import Derived.Test.YtnkpboobfkjibalSCloneM
namespace Go.Proofs.Ytnkpboobfkjibal
open Go.RowKit
set_option maxRecDepth 100000

theorem flat_append (xs ys : List Sp) : flat (xs ++ ys) = flat xs ++ flat ys := by simp [flat]
theorem sreads_addr {w : World} {a : Option Addr} {n cap : Nat} {ys : List Sp} (h : SReads w (.slice a n cap) ys) : n = ys.length ∧ (ys = [] ∨ ∃ b off, a = some ⟨b, off, none⟩ ∧ ∀ j u, (flat ys)[j]? = some u → w.cell? ((⟨b, off, none⟩ : Addr).add j) = some u) := by
  obtain ⟨a', cap', e, _, h⟩ := h
  cases e
  refine ⟨rfl, ?_⟩
  rcases h with h | ⟨b, off, rfl, hc⟩
  · exact .inl h
  · exact .inr ⟨b, off, rfl, flat_cells hc⟩
/-- Nothing is appended. -/
theorem nothing_run {w : World} {i0 : TypeInfo} (hi : Try.prog.info? 65 = some i0) (hsz : i0.size = 2) (ty : TypeId) (ao : Option Addr) (n c : Nat) (hle : n ≤ c) (a : Option Addr) (cy : Nat) :
    (Builtin.append_ #[36, 36] ty #[.slice ao n c, .slice a 0 cy]).run Try.prog w = .ok (.slice ao n c) w := by
  refine run_append_nothing _ _ _ _ _ i0 Try.underlying36 hi _ _ _ hle _ ?_
  rw [hsz]
  cases a with
  | none => exact Src.ofNil _ Try.underlying36 cy
  | some ad => exact Src.ofSlice _ Try.underlying36 ad 0 cy [] rfl (by intro j u h; simp at h) (by intro u h; simp at h)

theorem flat_drop (xs : List Sp) (k : Nat) : flat (xs.drop k) = (flat xs).drop (k * 2) := by
  induction xs generalizing k with
  | nil => simp [flat]
  | cons x xs ih =>
    cases k with
    | zero => rfl
    | succ k =>
      rw [List.drop_succ_cons, ih, show (k + 1) * 2 = k * 2 + 1 + 1 by omega]
      rfl
theorem flat_take (xs : List Sp) (k : Nat) : flat (xs.take k) = (flat xs).take (k * 2) := by
  induction xs generalizing k with
  | nil => simp [flat]
  | cons x xs ih =>
    cases k with
    | zero => rfl
    | succ k =>
      rw [List.take_succ_cons, show (k + 1) * 2 = k * 2 + 1 + 1 by omega]
      show _ :: _ :: flat (xs.take k) = _ :: _ :: (flat xs).take (k * 2)
      rw [ih]
theorem add_lit' (g o j : Nat) : (⟨g, o, none⟩ : Addr).add j = ⟨g, o + j, none⟩ := by rcases j with _ | j <;> simp [Addr.add]
theorem cells_drop {w : World} {g : Nat} {xs : List Sp} (h : ∀ j u, (flat xs)[j]? = some u → w.cell? ⟨g, j, none⟩ = some u) (k : Nat) : ∀ j u, (flat (xs.drop k))[j]? = some u → w.cell? ((⟨g, k * 2, none⟩ : Addr).add j) = some u := by
  intro j u hj
  rw [flat_drop, List.getElem?_drop] at hj
  rw [add_lit']
  exact h _ _ hj
theorem cells_take {w : World} {g : Nat} {xs : List Sp} (h : ∀ j u, (flat xs)[j]? = some u → w.cell? ⟨g, j, none⟩ = some u) (k : Nat) : ∀ j u, (flat (xs.take k))[j]? = some u → w.cell? ((⟨g, 0, none⟩ : Addr).add j) = some u := by
  intro j u hj
  rw [flat_take, List.getElem?_take] at hj
  rw [add_lit', Nat.zero_add]
  split at hj
  · exact h _ _ hj
  · cases hj
theorem cells_grown {w w' : World} {g : Nat} {cs : List Value} (h : ∀ j u, cs[j]? = some u → w.cell? ⟨g, j, none⟩ = some u) (hb : Below w.heap.size w w') : ∀ j u, cs[j]? = some u → w'.cell? ⟨g, j, none⟩ = some u := fun j u hj =>
  (hb.cell (p := ⟨g, j, none⟩) (lt_of_cell (h j u hj))).trans (h j u hj)
/-- A part of a row of one's own, without room behind it. -/
theorem sown_part {base g : Nat} {w : World} {xs : List Sp} {cur : Array Value} {t : TypeId} (hh : w.heap[g]? = some (.cells cur t (0, 0))) (ht : cur.toList.take (xs.length * 2) = flat xs) (hg : base ≤ g) (k c : Nat) (hk : k ≤ xs.length) (hkc : k ≤ c) (hl : xs.length ≤ 1048576) : SOwn base w (.slice (some ⟨g, 0, none⟩) k c) (xs.take k) := by
  have e : (xs.take k).length = k := by simp; omega
  refine ⟨by omega, .inr ⟨g, c, by rw [e], ⟨hg, by omega⟩, fun i hi => ?_⟩⟩
  rw [e] at hi
  have hi' : i < xs.length := by omega
  have := own_cells hh ht (Nat.le_refl _) i hi'
  rw [show (xs.take k).getD i (0, 0) = xs.getD i (0, 0) by rw [List.getD_eq_getElem?_getD, List.getD_eq_getElem?_getD, List.getElem?_take, if_pos hi]]
  exact this

end Go.Proofs.Ytnkpboobfkjibal
namespace Go.Proofs.Ytnkpboobfkjibal
open Go.RowKit

theorem sreads_cells {w : World} {v : Value} {xs : List Sp} (h : SReads w v xs) (k : Nat) (hk : k < xs.length) : ∃ b off cap, v = .slice (some ⟨b, off, none⟩) xs.length cap ∧ ∀ i, i < xs.length → w.cell? ⟨b, off + i * 2, none⟩ = some (.int .i64 (xs.getD i (0, 0)).1) ∧ w.cell? ⟨b, off + i * 2 + 1, none⟩ = some (.int .i64 (xs.getD i (0, 0)).2) := by
  obtain ⟨a, cap, rfl, _, h⟩ := h
  rcases h with h | ⟨b, off, rfl, hc⟩
  · subst h; simp at hk
  · exact ⟨b, off, cap, rfl, hc⟩
theorem snil_reads (w : World) (a : Option Addr) : SReads w (.slice a 0 0) [] := ⟨a, 0, rfl, by simp, .inl rfl⟩
theorem owns_nil (w : World) (base : Nat) (t : TypeId) : w.ownsRow base t 2 (.slice none 0 0) 0 (flat []) := ⟨rfl, .inl ⟨rfl, rfl⟩⟩
theorem owns_block {w : World} {base : Nat} {t : TypeId} {size n : Nat} {v : Value} {cs : List Value} (h : w.ownsRow base t size v n cs) : ∀ k, v.ownBlock = some k → base ≤ k := by
  intro k hk
  rcases h.2 with ⟨rfl, _⟩ | ⟨g, cap, cur, rfl, hg, _⟩
  · simp [Value.ownBlock] at hk
  · simp [Value.ownBlock] at hk; omega
theorem pair_new (w : World) (y : Sp) (t : TypeId) : ∀ j u, (flat [y])[j]? = some u → (w.alloc (.cells #[.int .i64 y.1, .int .i64 y.2] t)).cell? ((⟨w.heap.size, 0, none⟩ : Addr).add j) = some u := by
  intro j u hj
  rcases j with _ | _ | j
  · simp [flat] at hj; subst hj; simp [Addr.add]
  · simp [flat] at hj; subst hj; simp [Addr.add]
  · simp [flat] at hj
end Go.Proofs.Ytnkpboobfkjibal
