/-
  Buckets in boxes: three cells at once. Plain facts on the memory.
-/
import Derived.Test.YtcieefggijjekacFlowFns
import Derived.Test.YtcieefggijjekacKIntRows
namespace Go.Proofs.Ytcieefggijjekac
open Go.RowKit

abbrev BkEl := Int × Int × Int
abbrev bkV (x : BkEl) : Value := .agg #[.int .i64 x.1, .int .i64 x.2.1, .int .i64 x.2.2]
def BkCells (w : World) (b o : Nat) (x : BkEl) : Prop := w.cell? ⟨b, o, none⟩ = some (.int .i64 x.1) ∧ w.cell? ⟨b, o + 1, none⟩ = some (.int .i64 x.2.1) ∧ w.cell? ⟨b, o + 2, none⟩ = some (.int .i64 x.2.2)
def BkFree (w : World) (b o : Nat) : Prop := w.frozen? ⟨b, o, none⟩ = false ∧ w.frozen? ⟨b, o + 1, none⟩ = false ∧ w.frozen? ⟨b, o + 2, none⟩ = false
theorem BkCells.of_block {w w' : World} {b o : Nat} {x : BkEl} (h : BkCells w b o x) (e : w'.heap[b]? = w.heap[b]?) : BkCells w' b o x :=
  ⟨(World.cell?_of_block (a := ⟨b, o, none⟩) e).trans h.1, (World.cell?_of_block (a := ⟨b, o + 1, none⟩) e).trans h.2.1, (World.cell?_of_block (a := ⟨b, o + 2, none⟩) e).trans h.2.2⟩
theorem BkFree.of_block {w w' : World} {b o : Nat} (h : BkFree w b o) (e : w'.heap[b]? = w.heap[b]?) : BkFree w' b o :=
  ⟨(World.frozen?_of_block (a := ⟨b, o, none⟩) e).trans h.1, (World.frozen?_of_block (a := ⟨b, o + 1, none⟩) e).trans h.2.1, (World.frozen?_of_block (a := ⟨b, o + 2, none⟩) e).trans h.2.2⟩
theorem BkCells.lt {w : World} {b o : Nat} {x : BkEl} (h : BkCells w b o x) : b < w.heap.size := lt_of_cell h.1
theorem BkCells.below {w w' : World} {b o B : Nat} {x : BkEl} (h : BkCells w b o x) (hb : Below B w w') (hB : b < B) : BkCells w' b o x := h.of_block (hb.block b hB)
/-- Whether a bucket is good. -/
def bktB (x : BkEl) : Bool := rateB x.1 x.2.1 && decide (0 ≤ x.2.2 ∧ x.2.2 ≤ x.2.1)
/-- One tick more. -/
def tickK (x : BkEl) : BkEl := (x.1, x.2.1, lst7 x.2.1 (x.2.2 + x.1))
abbrev bput3 (w : World) (g o : Nat) (x : BkEl) : World := ((w.setCell ⟨g, o, none⟩ (.int .i64 x.1)).setCell ⟨g, o + 1, none⟩ (.int .i64 x.2.1)).setCell ⟨g, o + 2, none⟩ (.int .i64 x.2.2)
theorem bbelow_put3 {B : Nat} {a w : World} (h : Below B a w) {g : Nat} (hg : B ≤ g) (o : Nat) (x : BkEl) : Below B a (bput3 w g o x) := ((h.setCell hg _).setCell hg _).setCell hg _
theorem bsize_put3 (w : World) (g o : Nat) (x : BkEl) : (bput3 w g o x).heap.size = w.heap.size := by simp [bput3, World.setCell]
theorem bput3_same {w : World} {b : Nat} {z : BkEl} (c : BkCells w b 0 z) (x : BkEl) : BkCells (bput3 w b 0 x) b 0 x := by
  refine ⟨?_, ?_, ?_⟩
  · rw [World.cell?_setCell_other _ _ _ _ (by simp), World.cell?_setCell_other _ _ _ _ (by simp)]; exact World.cell?_setCell_same _ _ _ c.1
  · rw [World.cell?_setCell_other _ _ _ _ (by simp)]; exact World.cell?_setCell_same _ _ _ (u := .int .i64 z.2.1) (by rw [World.cell?_setCell_other _ _ _ _ (by simp)]; exact c.2.1)
  · exact World.cell?_setCell_same _ _ _ (u := .int .i64 z.2.2) (by rw [World.cell?_setCell_other _ _ _ _ (by simp), World.cell?_setCell_other _ _ _ _ (by simp)]; exact c.2.2)
theorem balloc3 (w : World) (x : BkEl) : BkCells (w.alloc (.cells #[.int .i64 x.1, .int .i64 x.2.1, .int .i64 x.2.2] 33)) w.heap.size 0 x ∧ BkFree (w.alloc (.cells #[.int .i64 x.1, .int .i64 x.2.1, .int .i64 x.2.2] 33)) w.heap.size 0 := by
  refine ⟨⟨?_, ?_, ?_⟩, ?_, ?_, ?_⟩ <;> simp
theorem BkFree.below {w w' : World} {b o B : Nat} (h : BkFree w b o) (hb : Below B w w') (hB : b < B) : BkFree w' b o := h.of_block (hb.block b hB)
end Go.Proofs.Ytcieefggijjekac
