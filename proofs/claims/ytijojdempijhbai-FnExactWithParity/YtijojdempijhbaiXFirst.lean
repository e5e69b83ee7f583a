/-
  The first of texts: a plain fact on the memory.
-/
import Derived.Test.YtijojdempijhbaiXRows
namespace Go.Proofs.Ytijojdempijhbai
open Go.RowKit

theorem xfirst {w : World} {v : Value} {xs : List XEl} (hr : XReads w v xs) (h : 1 ≤ xs.length) : ∃ b off cap, v = .slice (some ⟨b, off, none⟩) xs.length cap ∧ w.cell? ⟨b, off, none⟩ = some (.string (xs.getD 0 xz)) := by
  obtain ⟨b, off, cap, rfl, hc⟩ := hr.cells 0 h
  exact ⟨b, off, cap, rfl, hc 0 h⟩
end Go.Proofs.Ytijojdempijhbai
