/-
  The law FnExactIsHeap answers true at every list of work.
-/
import Derived.Test.YtndbdioignmaeatIsHeapLaw
import Derived.Test.YtndbdioignmaeatIIsHeap
import Derived.Test.YtndbdioignmaeatSIsHeap
namespace Go.Proofs.Ytndbdioignmaeat
open Go.RowKit

theorem FnExactIsHeap_walk (a0 : Option Addr) (len0 cap0 : Nat) (xs0 : List WkEl) (w : World) (h0 : WkArg w a0 len0 cap0 xs0) :
    Calls Try.prog 6 #[.slice a0 len0 cap0] w fun e w' => e = .returned (.bool true) ∧ Below w.heap.size w w' :=
  FnExactIsHeap_law a0 len0 cap0 xs0 w h0 (goodW xs0 && heapB xs0) (goodW xs0) (fun v0 w r0 => sIsHeap_any v0 xs0 w r0) (fun v0 w r0 => iIsHeap_any v0 xs0 w r0)
end Go.Proofs.Ytndbdioignmaeat
