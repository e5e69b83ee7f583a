/-
  'Only lo hi w w'': between two worlds no block has come, and those outside lo .. hi are as they were.
-/
import Derived.Test.YtdlkilacnnjglaaInts
namespace Go.Proofs.Ytdlkilacnnjglaa
open Go.RowKit

def Only (lo hi : Nat) (w w' : World) : Prop := w'.heap.size = w.heap.size ∧ ∀ j, (j < lo ∨ hi ≤ j) → w'.heap[j]? = w.heap[j]?
theorem Only.refl (lo hi : Nat) (w : World) : Only lo hi w w := ⟨rfl, fun _ _ => rfl⟩
theorem Only.trans {lo hi : Nat} {a b c : World} (h : Only lo hi a b) (k : Only lo hi b c) : Only lo hi a c := ⟨k.1.trans h.1, fun j hj => (k.2 j hj).trans (h.2 j hj)⟩
theorem Only.setCell {lo hi : Nat} {a w : World} (h : Only lo hi a w) {p : Addr} (h1 : lo ≤ p.block) (h2 : p.block < hi) (u : Value) : Only lo hi a (w.setCell p u) :=
  ⟨by rw [← h.1]; simp [World.setCell], fun j hj => (Below.heap_setCell _ _ _ _ (by omega)).trans (h.2 j hj)⟩
theorem Only.mono {lo hi lo' hi' : Nat} {a b : World} (h : Only lo hi a b) (h1 : lo' ≤ lo) (h2 : hi ≤ hi') : Only lo' hi' a b := ⟨h.1, fun j hj => h.2 j (by omega)⟩
theorem Only.drew {lo hi : Nat} {a b : World} (h : Only lo hi a b) : Only lo hi a b.drew := h
theorem Only.below {lo hi : Nat} {a b : World} (h : Only lo hi a b) (hs : b.os = a.os ∧ b.tape = a.tape ∧ b.output = a.output) : Below lo a b := ⟨hs.1, hs.2.1, hs.2.2, by rw [h.1]; exact Nat.le_refl _, fun k hk => h.2 k (.inl hk)⟩
end Go.Proofs.Ytdlkilacnnjglaa
