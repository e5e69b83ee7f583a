/-
  A struct in a box: its cells, one behind the other. Plain facts on the memory.
-/
import Derived.Test.YtdlkilacnnjglaaInts
namespace Go.Proofs.Ytdlkilacnnjglaa
open Go.RowKit

def BoxL (w : World) (b : Nat) (vs : List Value) : Prop := 0 < vs.length ∧ ∀ i (h : i < vs.length), w.cell? ⟨b, i, none⟩ = some vs[i] ∧ w.frozen? ⟨b, i, none⟩ = false
theorem BoxL.cell {w : World} {b : Nat} {vs : List Value} (h : BoxL w b vs) (i : Nat) (hi : i < vs.length) : w.cell? ⟨b, i, none⟩ = some vs[i] ∧ w.frozen? ⟨b, i, none⟩ = false := h.2 i hi
theorem BoxL.lt {w : World} {b : Nat} {vs : List Value} (h : BoxL w b vs) : b < w.heap.size := lt_of_cell (h.2 0 h.1).1
theorem BoxL.below {w w' : World} {b B : Nat} {vs : List Value} (h : BoxL w b vs) (hb : Below B w w') (hB : b < B) : BoxL w' b vs :=
  ⟨h.1, fun i hi => ⟨(World.cell?_of_block (a := ⟨b, i, none⟩) (hb.block b hB)).trans (h.2 i hi).1, (World.frozen?_of_block (a := ⟨b, i, none⟩) (hb.block b hB)).trans (h.2 i hi).2⟩⟩
theorem BoxL.of_block {w w' : World} {b : Nat} {vs : List Value} (h : BoxL w b vs) (e : w'.heap[b]? = w.heap[b]?) : BoxL w' b vs :=
  ⟨h.1, fun i hi => ⟨(World.cell?_of_block (a := ⟨b, i, none⟩) e).trans (h.2 i hi).1, (World.frozen?_of_block (a := ⟨b, i, none⟩) e).trans (h.2 i hi).2⟩⟩
theorem boxL_new (w : World) (vs : List Value) (t : TypeId) (h : 0 < vs.length := by simp) : BoxL (w.alloc (.cells vs.toArray t)) w.heap.size vs := by
  refine ⟨h, fun i hi => ⟨?_, ?_⟩⟩
  · rw [World.cell?_alloc_new]
    simp [hi]
  · simp
theorem BoxL.set {w : World} {b : Nat} {vs : List Value} (h : BoxL w b vs) (i : Nat) (hi : i < vs.length) (u : Value) : BoxL (w.setCell ⟨b, i, none⟩ u) b (vs.set i u) := by
  refine ⟨by rw [List.length_set]; exact h.1, fun j hj => ?_⟩
  rw [List.length_set] at hj
  refine ⟨?_, by simpa using (h.2 j hj).2⟩
  by_cases e : j = i
  · subst e
    rw [List.getElem_set_self]
    exact World.cell?_setCell_same _ _ _ (h.2 j hi).1
  · rw [List.getElem_set_ne (Ne.symm e), World.cell?_setCell_other _ _ _ _ (by simp <;> omega)]
    exact (h.2 j hj).1
theorem BoxL.two {w : World} {b : Nat} {a0 a1 : Value} (h : BoxL w b [a0, a1]) : w.cell? ⟨b, 0, none⟩ = some a0 ∧ w.cell? ⟨b, 1, none⟩ = some a1 := ⟨(h.2 0 (by simp)).1, (h.2 1 (by simp)).1⟩
theorem BoxL.three {w : World} {b : Nat} {a0 a1 a2 : Value} (h : BoxL w b [a0, a1, a2]) : w.cell? ⟨b, 0, none⟩ = some a0 ∧ w.cell? ⟨b, 1, none⟩ = some a1 ∧ w.cell? ⟨b, 2, none⟩ = some a2 := ⟨(h.2 0 (by simp)).1, (h.2 1 (by simp)).1, (h.2 2 (by simp)).1⟩
theorem BoxL.four {w : World} {b : Nat} {a0 a1 a2 a3 : Value} (h : BoxL w b [a0, a1, a2, a3]) : w.cell? ⟨b, 0, none⟩ = some a0 ∧ w.cell? ⟨b, 1, none⟩ = some a1 ∧ w.cell? ⟨b, 2, none⟩ = some a2 ∧ w.cell? ⟨b, 3, none⟩ = some a3 := ⟨(h.2 0 (by simp)).1, (h.2 1 (by simp)).1, (h.2 2 (by simp)).1, (h.2 3 (by simp)).1⟩
theorem BoxL.five {w : World} {b : Nat} {a0 a1 a2 a3 a4 : Value} (h : BoxL w b [a0, a1, a2, a3, a4]) : w.cell? ⟨b, 0, none⟩ = some a0 ∧ w.cell? ⟨b, 1, none⟩ = some a1 ∧ w.cell? ⟨b, 2, none⟩ = some a2 ∧ w.cell? ⟨b, 3, none⟩ = some a3 ∧ w.cell? ⟨b, 4, none⟩ = some a4 := ⟨(h.2 0 (by simp)).1, (h.2 1 (by simp)).1, (h.2 2 (by simp)).1, (h.2 3 (by simp)).1, (h.2 4 (by simp)).1⟩
end Go.Proofs.Ytdlkilacnnjglaa
