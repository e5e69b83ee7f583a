/-
  Of what was there only one cell of a block has turned. Plain facts on the memory.
-/
import Derived.Test.YtcieefggijjekacBut5
namespace Go.Proofs.Ytcieefggijjekac
open Go.RowKit

/-- Of what was there only one cell of a block has turned. -/
def OneCell (b k : Nat) (w w' : World) : Prop := (∀ i, i ≠ k → w'.cell? ⟨b, i, none⟩ = w.cell? ⟨b, i, none⟩) ∧ (∀ i, w'.frozen? ⟨b, i, none⟩ = w.frozen? ⟨b, i, none⟩) ∧ But (fun j => j = b) w w'
theorem OneCell.set (w : World) (b k : Nat) (u : Value) : OneCell b k w (w.setCell ⟨b, k, none⟩ u) := by
  refine ⟨fun i hi => ?_, fun i => ?_, (But.refl _ _).setCell (P := fun j => j = b) rfl _⟩
  · rw [World.cell?_setCell_other _ _ _ _ (by simp; try omega)]
  · simp
theorem OneCell.drew {b k : Nat} {w w' : World} (h : OneCell b k w w') : OneCell b k w w'.drew := ⟨fun i hi => h.1 i hi, fun i => h.2.1 i, h.2.2.drew⟩
theorem OneCell.trans {b k : Nat} {w w1 w2 : World} (h : OneCell b k w w1) (h2 : OneCell b k w1 w2) : OneCell b k w w2 := ⟨fun i hi => (h2.1 i hi).trans (h.1 i hi), fun i => (h2.2.1 i).trans (h.2.1 i), h.2.2.trans h2.2.2⟩
end Go.Proofs.Ytcieefggijjekac
