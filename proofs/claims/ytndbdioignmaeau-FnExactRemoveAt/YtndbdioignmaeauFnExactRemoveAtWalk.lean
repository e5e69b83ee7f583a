/-
  The law FnExactRemoveAt answers true at every list of work and every number.
-/
import Derived.Test.YtndbdioignmaeauRemoveAtLaw
import Derived.Test.YtndbdioignmaeauIRemFn
import Derived.Test.YtndbdioignmaeauSRemFn
namespace Go.Proofs.Ytndbdioignmaeau
open Go.RowKit

theorem FnExactRemoveAt_walk (a0 : Option Addr) (len0 cap0 : Nat) (xs0 : List WkEl) (n1 : Int) (w : World) (h0 : WkArg w a0 len0 cap0 xs0) :
    Calls Try.prog 6 #[.slice a0 len0 cap0, .int .i64 n1] w fun e w' => e = .returned (.bool true) ∧ Below w.heap.size w w' :=
  FnExactRemoveAt_law a0 len0 cap0 xs0 n1 w h0 (remY xs0 n1) (remY_len xs0 n1) (remB xs0 n1) (fun v0 w r0 => sRemoveAt_any v0 xs0 n1 w r0) (fun v0 w r0 => iRemoveAt_any v0 xs0 n1 w r0)
end Go.Proofs.Ytndbdioignmaeau
