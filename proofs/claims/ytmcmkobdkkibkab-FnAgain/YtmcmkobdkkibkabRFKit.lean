/-
  Boxes of variables, and what is kept: for loops over iterators. Plain facts on the memory.
-/
import Derived.RangeFuncNested
import Derived.RangeFuncBound
import Derived.RangeFuncCalls
import Derived.RangeFuncLeaves
import Derived.Shelf.Abstract
import Derived.OwnWalkIn
import Derived.TacticsInMore
import Derived.LoopNIn
import Derived.LoopIn
import Derived.Test.YtmcmkobdkkibkabInts
namespace Go.Proofs.Ytmcmkobdkkibkab
open Go.RowKit

theorem others_of_below {A B : World} (h : Below A.heap.size A B) : KeepsOthers A B := ⟨h.size, fun k _ hk _ => (h.block k (Array.getElem?_eq_some_iff.1 hk).1).trans hk⟩
theorem boxed_below {A B : World} {n b : Nat} {t : TypeId} {v : Value} (h : Boxed A b t v) (hb : Below n A B) (hn : b < n) : Boxed B b t v := (hb.block b hn).trans h
end Go.Proofs.Ytmcmkobdkkibkab
