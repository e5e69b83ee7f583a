/-
  What is told of a heap that is made. Plain functions, no program.
-/
import Derived.Test.YtndbdioignmaeaaHeapLaws
namespace Go.Proofs.Ytndbdioignmaeaa
open Go.RowKit

def makeY (xs : List WkEl) : List WkEl := if goodW xs = true then (makeL xs).1 else []
def makeN (xs : List WkEl) : Int := if goodW xs = true then ((makeL xs).2 : Int) else 0
theorem makeY_len (xs : List WkEl) : (makeY xs).length ≤ 1048576 := by
  unfold makeY
  split
  · rename_i h
    have := goodW_len h
    unfold makeL
    rw [makeF_len]
    omega
  · simp
theorem makeN_of {xs : List WkEl} (h : goodW xs = true) : makeN xs = ((makeL xs).2 : Int) := by unfold makeN; rw [if_pos h]
end Go.Proofs.Ytndbdioignmaeaa
