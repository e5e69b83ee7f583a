/-
  Slots as they are read. Plain facts.
-/
import Derived.Test.YtobkockikpgcoabLateMath
import Derived.Test.YtobkockikpgcoabKIntRows
namespace Go.Proofs.Ytobkockikpgcoab
open Go.RowKit

theorem cS_le (s : Nat → Int) (j u : Nat) : cS s j u ≤ u := by
  induction u with
  | zero => exact Int.le_refl _
  | succ u ih => show cS s j u + _ ≤ _; split <;> omega
theorem kcells_at {w : World} {v : Value} {ss : List Int} (h : KReads w v ss) (h0 : 0 < ss.length) : ∃ g o cap, v = .slice (some ⟨g, o, none⟩) ss.length cap ∧ ss.length ≤ cap ∧ ∀ i, i < ss.length → w.cell? ⟨g, o + i, none⟩ = some (.int .i64 (sl ss i)) := by
  obtain ⟨a, cap, rfl, hl, h⟩ := h
  rcases h with h | ⟨b, off, rfl, hc⟩
  · subst h; simp at h0
  · exact ⟨b, off, cap, rfl, hl.2, fun i hi => hc i hi⟩

end Go.Proofs.Ytobkockikpgcoab
