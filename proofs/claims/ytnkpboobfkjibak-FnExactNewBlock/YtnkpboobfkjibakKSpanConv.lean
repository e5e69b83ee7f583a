/-
  The two ways of saying what spans lie where, one out of the other. Plain facts on the memory.
-/
import Derived.Test.YtnkpboobfkjibakSpans
import Derived.Test.YtnkpboobfkjibakKSpanRows
namespace Go.Proofs.Ytnkpboobfkjibak
open Go.RowKit

theorem SpReads.s {w : World} {v : Value} {xs : List Sp} (h : SpReads w v xs) : SReads w v xs := h
theorem SOwn.k {base : Nat} {w : World} {v : Value} {xs : List Sp} (h : SOwn base w v xs) : SpOwn base w.heap.size w v xs := by
  obtain ⟨hl, h⟩ := h
  rcases h with ⟨a, rfl, rfl⟩ | ⟨g, cap, rfl, hg, hf⟩
  · exact ⟨hl, .inl ⟨a, 0, rfl, rfl⟩⟩
  · by_cases h0 : xs = []
    · subst h0
      exact ⟨hl, .inl ⟨_, cap, rfl, rfl⟩⟩
    · exact ⟨hl, .inr ⟨g, cap, rfl, ⟨hg.1, lt_of_cell (hf 0 (List.length_pos_iff.2 h0)).1.1, hg.2⟩, hf⟩⟩
end Go.Proofs.Ytnkpboobfkjibak
