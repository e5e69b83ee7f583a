/-
  The law FnExactPopHeap answers true at every list of work.
-/
import Derived.Test.YtndbdioignmaeauPopHeapLaw
import Derived.Test.YtndbdioignmaeauIPopFn
import Derived.Test.YtndbdioignmaeauSPopFn
namespace Go.Proofs.Ytndbdioignmaeau
open Go.RowKit

theorem FnExactPopHeap_walk (a0 : Option Addr) (len0 cap0 : Nat) (xs0 : List WkEl) (w : World) (h0 : WkArg w a0 len0 cap0 xs0) :
    Calls Try.prog 3 #[.slice a0 len0 cap0] w fun e w' => e = .returned (.bool true) ∧ Below w.heap.size w w' :=
  FnExactPopHeap_law a0 len0 cap0 xs0 w h0 (popY xs0) (popY_len xs0) (popX xs0) (popB xs0) (fun v0 w r0 => sPopHeap_any v0 xs0 w r0) (fun v0 w r0 => iPopHeap_any v0 xs0 w r0)
end Go.Proofs.Ytndbdioignmaeau
