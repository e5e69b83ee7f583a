/-
  The law FnExactPushHeap answers true at every list of work and all work.
-/
import Derived.Test.YtndbdioignmaeatPushHeapLaw
import Derived.Test.YtndbdioignmaeatIPushFn
import Derived.Test.YtndbdioignmaeatSPushFn
namespace Go.Proofs.Ytndbdioignmaeat
open Go.RowKit

theorem FnExactPushHeap_walk (a0 : Option Addr) (len0 cap0 : Nat) (xs0 : List WkEl) (x1 : WkEl) (w : World) (h0 : WkArg w a0 len0 cap0 xs0) :
    Calls Try.prog 7 #[.slice a0 len0 cap0, .agg #[.int .i64 x1.1, .int .i64 x1.2.1, .int .i64 x1.2.2]] w fun e w' => e = .returned (.bool true) ∧ Below w.heap.size w w' :=
  FnExactPushHeap_law a0 len0 cap0 xs0 x1 w h0 (pushY xs0 x1) (pushY_len xs0 x1) (pushB xs0 x1) (fun v0 w r0 => sPushHeap_any v0 xs0 x1 w r0) (fun v0 w r0 => iPushHeap_any v0 xs0 x1 w r0)
end Go.Proofs.Ytndbdioignmaeat
