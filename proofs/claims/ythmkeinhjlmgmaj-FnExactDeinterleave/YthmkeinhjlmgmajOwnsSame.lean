/-
  A row stays owned where its block lies as it lay. A plain fact on the memory.
-/
import Derived.Test.YthmkeinhjlmgmajInts
import Derived.Maps.AppendAt
namespace Go.Proofs.Ythmkeinhjlmgmaj
open Go.RowKit

theorem owns_same {A B : World} {base : Nat} {e : TypeId} {size n : Nat} {v : Value} {cs : List Value} (h : A.ownsRow base e size v n cs) (hk : ∀ (g : Nat) cur z, A.heap[g]? = some (.cells cur e z) → B.heap[g]? = A.heap[g]?) : B.ownsRow base e size v n cs := by
  refine ⟨h.1, ?_⟩
  rcases h.2 with h | ⟨g, cap, cur, hv, hg, hh, hr⟩
  · exact .inl h
  · exact .inr ⟨g, cap, cur, hv, hg, (hk g cur _ hh).trans hh, hr⟩
theorem owns_base {w : World} {base : Nat} {t : TypeId} {size n : Nat} {v : Value} {cs : List Value} (h : w.ownsRow base t size v n cs) : ∀ k, v.ownBlock = some k → base ≤ k := by
  intro k hk
  rcases h.2 with ⟨rfl, _⟩ | ⟨g, cap, cur, rfl, hg, _⟩
  · simp [Value.ownBlock] at hk
  · simp [Value.ownBlock] at hk; omega
theorem owns_set {w : World} {base : Nat} {t : TypeId} {size n : Nat} {v : Value} {cs : List Value} (h : w.ownsRow base t size v n cs) {p : Addr} (hp : p.block < base) (u : Value) : (w.setCell p u).ownsRow base t size v n cs := by
  refine ⟨h.1, ?_⟩
  rcases h.2 with h | ⟨g, cap, cur, hv, hg, hh, hr⟩
  · exact .inl h
  · exact .inr ⟨g, cap, cur, hv, hg, (Below.heap_setCell w p u g (by omega)).trans hh, hr⟩
theorem one_at_new {W : World} {t : TypeId} {v : Value} {n : Nat} (hn : n = W.heap.size) : ∀ j u, [v][j]? = some u → (W.alloc (.cells #[v] t)).cell? ((⟨n, 0, none⟩ : Addr).add j) = some u := by
  subst hn
  exact cell_one_new _ _ _
/-- Behind an append to a row from 'base' on: what lay below it lies. -/
theorem grown_block {w w1 : World} {o : Obj} {row : Option Nat} {base g : Nat} (hg : (w.alloc o).grownBy w1 row) (hr : ∀ k, row = some k → base ≤ k) (h1 : g < base) (h2 : g < w.heap.size) : w1.heap[g]? = w.heap[g]? :=
  (hg.block g (by simp; omega) (fun e => by have := hr g e.symm; omega)).trans (Below.heap_alloc w o g h2)
theorem grown_below {n : Nat} {w0 w w1 : World} {o : Obj} {row : Option Nat} {base : Nat} (hb : Below n w0 w) (hn : n ≤ w.heap.size) (hg : (w.alloc o).grownBy w1 row) (hr : ∀ k, row = some k → base ≤ k) (h1 : n ≤ base) : Below n w0 w1 :=
  (hb.alloc hn o).grown hg (by simp; omega) (fun k e => by have := hr k e; omega)
end Go.Proofs.Ythmkeinhjlmgmaj
