/-
  A span in a block of its own. Plain facts on the memory.
-/
import Derived.Test.YtijojdempijhbaiSpans
namespace Go.Proofs.Ytijojdempijhbai
open Go.RowKit

/-- A span that lies in block H and may be written. -/
def XBox (w : World) (H : Nat) (p q : Int) : Prop := (w.cell? ⟨H, 0, none⟩ = some (.int .i64 p) ∧ w.cell? ⟨H, 1, none⟩ = some (.int .i64 q)) ∧ w.frozen? ⟨H, 0, none⟩ = false ∧ w.frozen? ⟨H, 1, none⟩ = false
theorem XBox.below {w w' : World} {H : Nat} {p q : Int} (h : XBox w H p q) (hb : Below (H + 1) w w') : XBox w' H p q := by
  have e := hb.block H (by omega)
  refine ⟨⟨?_, ?_⟩, ?_, ?_⟩
  · rw [World.cell?_of_block (a := ⟨H, 0, none⟩) e]; exact h.1.1
  · rw [World.cell?_of_block (a := ⟨H, 1, none⟩) e]; exact h.1.2
  · rw [World.frozen?_of_block (a := ⟨H, 0, none⟩) e]; exact h.2.1
  · rw [World.frozen?_of_block (a := ⟨H, 1, none⟩) e]; exact h.2.2
theorem XBox.set {w : World} {H : Nat} {p q : Int} (h : XBox w H p q) (p' q' : Int) : XBox ((w.setCell ⟨H, 0, none⟩ (.int .i64 p')).setCell ⟨H, 1, none⟩ (.int .i64 q')) H p' q' := by
  refine ⟨⟨?_, ?_⟩, by simpa using h.2.1, by simpa using h.2.2⟩
  · rw [World.cell?_setCell_other _ _ _ _ (by simp), World.cell?_setCell_same _ _ _ h.1.1]
  · rw [World.cell?_setCell_same _ _ _ (u := .int .i64 q) (by rw [World.cell?_setCell_other _ _ _ _ (by simp)]; exact h.1.2)]
theorem XBox.only {w w' : World} {H b : Nat} {p q : Int} (h : XBox w H p q) (hg : w.grownBy w' (some b)) (hb : H ≠ b) : XBox w' H p q := by
  have e := hg.block H (lt_of_cell h.1.1) (by intro e; cases e; omega)
  refine ⟨⟨?_, ?_⟩, ?_, ?_⟩
  · rw [World.cell?_of_block (a := ⟨H, 0, none⟩) e]; exact h.1.1
  · rw [World.cell?_of_block (a := ⟨H, 1, none⟩) e]; exact h.1.2
  · rw [World.frozen?_of_block (a := ⟨H, 0, none⟩) e]; exact h.2.1
  · rw [World.frozen?_of_block (a := ⟨H, 1, none⟩) e]; exact h.2.2
theorem XBox.new (w : World) (p q : Int) (t : TypeId) : XBox (w.alloc (.cells #[.int .i64 p, .int .i64 q] t)) w.heap.size p q := ⟨⟨by simp, by simp⟩, by simp, by simp⟩
theorem XBox.lt {w : World} {H : Nat} {p q : Int} (h : XBox w H p q) : H < w.heap.size := lt_of_cell h.1.1
end Go.Proofs.Ytijojdempijhbai
