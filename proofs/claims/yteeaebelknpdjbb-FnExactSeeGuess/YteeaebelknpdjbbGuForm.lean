/-
  Guesses and what is seen in boxes: their cells. Plain facts on the memory.
-/
import Derived.Test.YteeaebelknpdjbbGuFns
namespace Go.Proofs.Yteeaebelknpdjbb
open Go.RowKit

def GuCells (w : World) (b : Nat) (x : GuEl) : Prop := w.cell? ⟨b, 0, none⟩ = some (.int .i64 x.1) ∧ w.cell? ⟨b, 1, none⟩ = some (.int .i64 x.2.1) ∧ w.cell? ⟨b, 2, none⟩ = some (.int .i64 x.2.2.1) ∧ w.cell? ⟨b, 3, none⟩ = some (.int .i64 x.2.2.2)
def GuFree (w : World) (b : Nat) : Prop := w.frozen? ⟨b, 0, none⟩ = false ∧ w.frozen? ⟨b, 1, none⟩ = false ∧ w.frozen? ⟨b, 2, none⟩ = false ∧ w.frozen? ⟨b, 3, none⟩ = false
theorem GuCells.of_block {w w' : World} {b : Nat} {x : GuEl} (h : GuCells w b x) (e : w'.heap[b]? = w.heap[b]?) : GuCells w' b x :=
  ⟨(World.cell?_of_block (a := ⟨b, 0, none⟩) e).trans h.1, (World.cell?_of_block (a := ⟨b, 1, none⟩) e).trans h.2.1, (World.cell?_of_block (a := ⟨b, 2, none⟩) e).trans h.2.2.1, (World.cell?_of_block (a := ⟨b, 3, none⟩) e).trans h.2.2.2⟩
theorem GuFree.of_block {w w' : World} {b : Nat} (h : GuFree w b) (e : w'.heap[b]? = w.heap[b]?) : GuFree w' b :=
  ⟨(World.frozen?_of_block (a := ⟨b, 0, none⟩) e).trans h.1, (World.frozen?_of_block (a := ⟨b, 1, none⟩) e).trans h.2.1, (World.frozen?_of_block (a := ⟨b, 2, none⟩) e).trans h.2.2.1, (World.frozen?_of_block (a := ⟨b, 3, none⟩) e).trans h.2.2.2⟩
theorem GuCells.lt {w : World} {b : Nat} {x : GuEl} (h : GuCells w b x) : b < w.heap.size := lt_of_cell h.1
theorem GuCells.below {w w' : World} {b B : Nat} {x : GuEl} (h : GuCells w b x) (hb : Below B w w') (hB : b < B) : GuCells w' b x := h.of_block (hb.block b hB)
theorem GuFree.below {w w' : World} {b B : Nat} (h : GuFree w b) (hb : Below B w w') (hB : b < B) : GuFree w' b := h.of_block (hb.block b hB)
abbrev gput4 (w : World) (g : Nat) (x : GuEl) : World := (((w.setCell ⟨g, 0, none⟩ (.int .i64 x.1)).setCell ⟨g, 1, none⟩ (.int .i64 x.2.1)).setCell ⟨g, 2, none⟩ (.int .i64 x.2.2.1)).setCell ⟨g, 3, none⟩ (.int .i64 x.2.2.2)
theorem gbelow_put4 {B : Nat} {a w : World} (h : Below B a w) {g : Nat} (hg : B ≤ g) (x : GuEl) : Below B a (gput4 w g x) := (((h.setCell hg _).setCell hg _).setCell hg _).setCell hg _
theorem gsize_put4 (w : World) (g : Nat) (x : GuEl) : (gput4 w g x).heap.size = w.heap.size := by simp [gput4, World.setCell]
theorem gput4_same {w : World} {b : Nat} {z : GuEl} (c : GuCells w b z) (x : GuEl) : GuCells (gput4 w b x) b x := by
  obtain ⟨c0, c1, c2, c3⟩ := c
  refine ⟨?_, ?_, ?_, ?_⟩
  · rw [World.cell?_setCell_other _ _ _ _ (by simp), World.cell?_setCell_other _ _ _ _ (by simp), World.cell?_setCell_other _ _ _ _ (by simp)]; exact World.cell?_setCell_same _ _ _ c0
  · rw [World.cell?_setCell_other _ _ _ _ (by simp), World.cell?_setCell_other _ _ _ _ (by simp)]; exact World.cell?_setCell_same _ _ _ (u := .int .i64 z.2.1) (by rw [World.cell?_setCell_other _ _ _ _ (by simp)]; exact c1)
  · rw [World.cell?_setCell_other _ _ _ _ (by simp)]; exact World.cell?_setCell_same _ _ _ (u := .int .i64 z.2.2.1) (by rw [World.cell?_setCell_other _ _ _ _ (by simp), World.cell?_setCell_other _ _ _ _ (by simp)]; exact c2)
  · exact World.cell?_setCell_same _ _ _ (u := .int .i64 z.2.2.2) (by rw [World.cell?_setCell_other _ _ _ _ (by simp), World.cell?_setCell_other _ _ _ _ (by simp), World.cell?_setCell_other _ _ _ _ (by simp)]; exact c3)
theorem galloc4 (w : World) (x : GuEl) : GuCells (w.alloc (.cells #[.int .i64 x.1, .int .i64 x.2.1, .int .i64 x.2.2.1, .int .i64 x.2.2.2] 23)) w.heap.size x ∧ GuFree (w.alloc (.cells #[.int .i64 x.1, .int .i64 x.2.1, .int .i64 x.2.2.1, .int .i64 x.2.2.2] 23)) w.heap.size := by
  refine ⟨⟨?_, ?_, ?_, ?_⟩, ?_, ?_, ?_, ?_⟩ <;> simp
/-- What was seen, in a box. -/
def SnBox (w : World) (b : Nat) (x : SnEl) : Prop := w.cell? ⟨b, 0, none⟩ = some (.int .i64 x.1) ∧ w.cell? ⟨b, 1, none⟩ = some (.bool x.2.1) ∧ w.cell? ⟨b, 2, none⟩ = some (.bool x.2.2)
theorem SnBox.of_block {w w' : World} {b : Nat} {x : SnEl} (h : SnBox w b x) (e : w'.heap[b]? = w.heap[b]?) : SnBox w' b x :=
  ⟨(World.cell?_of_block (a := ⟨b, 0, none⟩) e).trans h.1, (World.cell?_of_block (a := ⟨b, 1, none⟩) e).trans h.2.1, (World.cell?_of_block (a := ⟨b, 2, none⟩) e).trans h.2.2⟩
theorem SnBox.lt {w : World} {b : Nat} {x : SnEl} (h : SnBox w b x) : b < w.heap.size := lt_of_cell h.1
theorem SnBox.below {w w' : World} {b B : Nat} {x : SnEl} (h : SnBox w b x) (hb : Below B w w') (hB : b < B) : SnBox w' b x := h.of_block (hb.block b hB)
theorem snalloc (w : World) (x : SnEl) : SnBox (w.alloc (.cells #[.int .i64 x.1, .bool x.2.1, .bool x.2.2] 35)) w.heap.size x := by
  refine ⟨?_, ?_, ?_⟩ <;> simp
end Go.Proofs.Yteeaebelknpdjbb
