/-
  One number of a guess in a box is written. Plain facts on the memory.
-/
import Derived.Test.YteeaebelknpdjacGuForm
import Derived.Test.YteeaebelknpdjacBut5
namespace Go.Proofs.Yteeaebelknpdjac
open Go.RowKit

theorem GuCells.set0 {w : World} {b : Nat} {m s n k : Int} (h : GuCells w b (m, s, n, k)) (v : Int) : GuCells (w.setCell ⟨b, 0, none⟩ (.int .i64 v)) b (v, s, n, k) := by
  obtain ⟨c0, c1, c2, c3⟩ := h
  refine ⟨?_, ?_, ?_, ?_⟩
  · exact World.cell?_setCell_same _ _ _ c0
  · rw [World.cell?_setCell_other _ _ _ _ (by simp)]; exact c1
  · rw [World.cell?_setCell_other _ _ _ _ (by simp)]; exact c2
  · rw [World.cell?_setCell_other _ _ _ _ (by simp)]; exact c3
theorem GuCells.set1 {w : World} {b : Nat} {m s n k : Int} (h : GuCells w b (m, s, n, k)) (v : Int) : GuCells (w.setCell ⟨b, 1, none⟩ (.int .i64 v)) b (m, v, n, k) := by
  obtain ⟨c0, c1, c2, c3⟩ := h
  refine ⟨?_, ?_, ?_, ?_⟩
  · rw [World.cell?_setCell_other _ _ _ _ (by simp)]; exact c0
  · exact World.cell?_setCell_same _ _ _ c1
  · rw [World.cell?_setCell_other _ _ _ _ (by simp)]; exact c2
  · rw [World.cell?_setCell_other _ _ _ _ (by simp)]; exact c3
theorem GuCells.set2 {w : World} {b : Nat} {m s n k : Int} (h : GuCells w b (m, s, n, k)) (v : Int) : GuCells (w.setCell ⟨b, 2, none⟩ (.int .i64 v)) b (m, s, v, k) := by
  obtain ⟨c0, c1, c2, c3⟩ := h
  refine ⟨?_, ?_, ?_, ?_⟩
  · rw [World.cell?_setCell_other _ _ _ _ (by simp)]; exact c0
  · rw [World.cell?_setCell_other _ _ _ _ (by simp)]; exact c1
  · exact World.cell?_setCell_same _ _ _ c2
  · rw [World.cell?_setCell_other _ _ _ _ (by simp)]; exact c3
theorem GuCells.set3 {w : World} {b : Nat} {m s n k : Int} (h : GuCells w b (m, s, n, k)) (v : Int) : GuCells (w.setCell ⟨b, 3, none⟩ (.int .i64 v)) b (m, s, n, v) := by
  obtain ⟨c0, c1, c2, c3⟩ := h
  refine ⟨?_, ?_, ?_, ?_⟩
  · rw [World.cell?_setCell_other _ _ _ _ (by simp)]; exact c0
  · rw [World.cell?_setCell_other _ _ _ _ (by simp)]; exact c1
  · rw [World.cell?_setCell_other _ _ _ _ (by simp)]; exact c2
  · exact World.cell?_setCell_same _ _ _ c3
theorem GuFree.set {w : World} {b c j : Nat} {u : Value} (h : GuFree w b) : GuFree (w.setCell ⟨c, j, none⟩ u) b := by
  unfold GuFree at h ⊢
  simpa using h
theorem GuFree.drew {w : World} {b : Nat} (h : GuFree w b) : GuFree w.drew b := h
theorem GuCells.drew {w : World} {b : Nat} {x : GuEl} (h : GuCells w b x) : GuCells w.drew b x := h
theorem SnBox.drew {w : World} {b : Nat} {x : SnEl} (h : SnBox w b x) : SnBox w.drew b x := h
theorem SnBox.set {w : World} {b c j : Nat} {x : SnEl} {u : Value} (h : SnBox w b x) (hne : b ≠ c) : SnBox (w.setCell ⟨c, j, none⟩ u) b x := h.of_block (Below.heap_setCell _ _ _ _ hne)
theorem GuCells.but {P : Nat → Prop} {w w' : World} {b : Nat} {x : GuEl} (h : GuCells w b x) (hb : But P w w') (hp : ¬ P b) : GuCells w' b x := h.of_block (hb.2 b h.lt hp)
theorem GuFree.but {P : Nat → Prop} {w w' : World} {b : Nat} (h : GuFree w b) (hs : b < w.heap.size) (hb : But P w w') (hp : ¬ P b) : GuFree w' b := h.of_block (hb.2 b hs hp)
end Go.Proofs.Yteeaebelknpdjac
