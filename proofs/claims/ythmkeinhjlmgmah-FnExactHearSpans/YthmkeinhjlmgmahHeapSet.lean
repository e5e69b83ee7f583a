/-
  A cell that is written lies in one block alone.
-/
import Derived.Test.YthmkeinhjlmgmahSpans
namespace Go.Proofs.Ythmkeinhjlmgmah
open Go.RowKit

theorem heap_setCell_ne (w : World) (a : Addr) (v : Value) (k : Nat) (h : k ≠ a.block) : (w.setCell a v).heap[k]? = w.heap[k]? := by
  simp only [World.setCell, Array.getElem?_modify]
  simp [Ne.symm h]

end Go.Proofs.Ythmkeinhjlmgmah
