/-
  The law FnExactMakeHeap answers true at every list of work.
-/
import Derived.Test.YtndbdioignmaeauMakeHeapLaw
import Derived.Test.YtndbdioignmaeauIMakeFn
import Derived.Test.YtndbdioignmaeauSMakeFn
namespace Go.Proofs.Ytndbdioignmaeau
open Go.RowKit

theorem FnExactMakeHeap_walk (a0 : Option Addr) (len0 cap0 : Nat) (xs0 : List WkEl) (w : World) (h0 : WkArg w a0 len0 cap0 xs0) :
    Calls Try.prog 4 #[.slice a0 len0 cap0] w fun e w' => e = .returned (.bool true) ∧ Below w.heap.size w w' :=
  FnExactMakeHeap_law a0 len0 cap0 xs0 w h0 (makeY xs0) (makeY_len xs0) (goodW xs0) (fun v0 w r0 => sMakeHeap_any v0 xs0 w r0) (fun v0 w r0 => iMakeHeap_any v0 xs0 w r0)
end Go.Proofs.Ytndbdioignmaeau
