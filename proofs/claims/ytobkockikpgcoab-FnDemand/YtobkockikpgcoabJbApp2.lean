/-
  Rows of jobs that are appended to within one statement. Plain facts on the memory.
-/
import Derived.Test.YtobkockikpgcoabKJobApp
namespace Go.Proofs.Ytobkockikpgcoab
open Go.RowKit

theorem jowns_form {w : World} {base : Nat} {t : TypeId} {v : Value} {n : Nat} {cs : List Value} (h : w.ownsRow base t 3 v n cs) (h0 : 0 < n) : ∃ g cap, v = .slice (some ⟨g, 0, none⟩) n cap ∧ base ≤ g ∧ g < w.heap.size := by
  rcases h.2 with ⟨_, h0⟩ | ⟨g, cap, cur, rfl, hg, hh, _⟩
  · omega
  · exact ⟨g, cap, rfl, hg, (Array.getElem?_eq_some_iff.1 hh).1⟩
theorem jcells_below {w W : World} {b off : Nat} {xs : List JbEl} (hc : ∀ j u, (jbflat xs)[j]? = some u → w.cell? ((⟨b, off, none⟩ : Addr).add j) = some u) (hb : Below w.heap.size w W) (hlt : b < w.heap.size) : ∀ j u, (jbflat xs)[j]? = some u → W.cell? ((⟨b, off, none⟩ : Addr).add j) = some u := by
  intro j u hj
  have := hc j u hj
  rw [show (⟨b, off, none⟩ : Addr).add j = ⟨b, off + j, none⟩ by rcases j with _ | j <;> simp [Addr.add]] at this ⊢
  exact (hb.cell (p := ⟨b, off + j, none⟩) hlt).trans this

theorem jcellA3 (w : World) (o1 o2 o3 : Obj) (j : Nat) : (((w.alloc o1).alloc o2).alloc o3).cell? ⟨w.heap.size, j, none⟩ = (w.alloc o1).cell? ⟨w.heap.size, j, none⟩ := by
  rw [World.cell?_alloc_past _ _ _ (by simp; omega), World.cell?_alloc_past _ _ _ (by simp)]
theorem jcellB3 (w : World) (o1 o2 o3 : Obj) (j : Nat) : (((w.alloc o1).alloc o2).alloc o3).cell? ⟨w.heap.size + 1, j, none⟩ = ((w.alloc o1).alloc o2).cell? ⟨w.heap.size + 1, j, none⟩ := by
  rw [World.cell?_alloc_past _ _ _ (by simp)]
theorem jcellC3_0 (w : World) (o1 o2 : Obj) (a b c : Value) (t : TypeId) : (((w.alloc o1).alloc o2).alloc (.cells #[a, b, c] t)).cell? ⟨w.heap.size + 1 + 1, 0, none⟩ = some a := by
  rw [World.cell?_alloc_at _ _ _ _ (by simp)]; rfl
theorem jcellC3_1 (w : World) (o1 o2 : Obj) (a b c : Value) (t : TypeId) : (((w.alloc o1).alloc o2).alloc (.cells #[a, b, c] t)).cell? ⟨w.heap.size + 1 + 1, 1, none⟩ = some b := by
  rw [World.cell?_alloc_at _ _ _ _ (by simp)]; rfl
theorem jcellC3_2 (w : World) (o1 o2 : Obj) (a b c : Value) (t : TypeId) : (((w.alloc o1).alloc o2).alloc (.cells #[a, b, c] t)).cell? ⟨w.heap.size + 1 + 1, 2, none⟩ = some c := by
  rw [World.cell?_alloc_at _ _ _ _ (by simp)]; rfl
theorem jthenUse {A G : Prop} (a : A) (f : A → G) : G := f a
theorem jpush_below {w W w1 : World} {row : Option Nat} (hg : W.grownBy w1 row) (bW : Below w.heap.size w W) (hr : ∀ k, row = some k → w.heap.size ≤ k) : Below w.heap.size w w1 := bW.grown hg bW.size hr
theorem jcell2_0 (w : World) (o1 : Obj) (a b c : Value) (t : TypeId) : ((w.alloc o1).alloc (.cells #[a, b, c] t)).cell? ⟨w.heap.size + 1, 0, none⟩ = some a := by
  rw [World.cell?_alloc_at _ _ _ _ (by simp)]; rfl
theorem jcell2_1 (w : World) (o1 : Obj) (a b c : Value) (t : TypeId) : ((w.alloc o1).alloc (.cells #[a, b, c] t)).cell? ⟨w.heap.size + 1, 1, none⟩ = some b := by
  rw [World.cell?_alloc_at _ _ _ _ (by simp)]; rfl
theorem jcell2_2 (w : World) (o1 : Obj) (a b c : Value) (t : TypeId) : ((w.alloc o1).alloc (.cells #[a, b, c] t)).cell? ⟨w.heap.size + 1, 2, none⟩ = some c := by
  rw [World.cell?_alloc_at _ _ _ _ (by simp)]; rfl
end Go.Proofs.Ytobkockikpgcoab
