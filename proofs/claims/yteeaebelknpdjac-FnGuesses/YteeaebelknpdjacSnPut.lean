/-
  What was seen, written into a box. Plain facts on the memory.
-/
import Derived.Test.YteeaebelknpdjacGuBoxes
namespace Go.Proofs.Yteeaebelknpdjac
open Go.RowKit

def SnFree (w : World) (b : Nat) : Prop := w.frozen? ⟨b, 0, none⟩ = false ∧ w.frozen? ⟨b, 1, none⟩ = false ∧ w.frozen? ⟨b, 2, none⟩ = false
theorem SnFree.of_block {w w' : World} {b : Nat} (h : SnFree w b) (e : w'.heap[b]? = w.heap[b]?) : SnFree w' b :=
  ⟨(World.frozen?_of_block (a := ⟨b, 0, none⟩) e).trans h.1, (World.frozen?_of_block (a := ⟨b, 1, none⟩) e).trans h.2.1, (World.frozen?_of_block (a := ⟨b, 2, none⟩) e).trans h.2.2⟩
theorem SnFree.below {w w' : World} {b B : Nat} (h : SnFree w b) (hb : Below B w w') (hB : b < B) : SnFree w' b := h.of_block (hb.block b hB)
theorem snfree_new (w : World) (x : SnEl) : SnFree (w.alloc (.cells #[.int .i64 x.1, .bool x.2.1, .bool x.2.2] 74)) w.heap.size := by
  refine ⟨?_, ?_, ?_⟩ <;> simp
abbrev snput3 (w : World) (g : Nat) (x : SnEl) : World := ((w.setCell ⟨g, 0, none⟩ (.int .i64 x.1)).setCell ⟨g, 1, none⟩ (.bool x.2.1)).setCell ⟨g, 2, none⟩ (.bool x.2.2)
theorem snbelow_put3 {B : Nat} {a w : World} (h : Below B a w) {g : Nat} (hg : B ≤ g) (x : SnEl) : Below B a (snput3 w g x) := ((h.setCell hg _).setCell hg _).setCell hg _
theorem snput3_same {w : World} {b : Nat} {z : SnEl} (c : SnBox w b z) (x : SnEl) : SnBox (snput3 w b x) b x := by
  obtain ⟨c0, c1, c2⟩ := c
  refine ⟨?_, ?_, ?_⟩
  · rw [World.cell?_setCell_other _ _ _ _ (by simp), World.cell?_setCell_other _ _ _ _ (by simp)]; exact World.cell?_setCell_same _ _ _ c0
  · rw [World.cell?_setCell_other _ _ _ _ (by simp)]; exact World.cell?_setCell_same _ _ _ (u := .bool z.2.1) (by rw [World.cell?_setCell_other _ _ _ _ (by simp)]; exact c1)
  · exact World.cell?_setCell_same _ _ _ (u := .bool z.2.2) (by rw [World.cell?_setCell_other _ _ _ _ (by simp), World.cell?_setCell_other _ _ _ _ (by simp)]; exact c2)
end Go.Proofs.Yteeaebelknpdjac
