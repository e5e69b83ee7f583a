/-
  The law FnExactSortWork answers true at every list of work.
-/
import Derived.Test.YtndbdioignmaeauSortWorkLaw
import Derived.Test.YtndbdioignmaeauISortFn
import Derived.Test.YtndbdioignmaeauSSortFn
namespace Go.Proofs.Ytndbdioignmaeau
open Go.RowKit

theorem FnExactSortWork_walk (a0 : Option Addr) (len0 cap0 : Nat) (xs0 : List WkEl) (w : World) (h0 : WkArg w a0 len0 cap0 xs0) :
    Calls Try.prog 5 #[.slice a0 len0 cap0] w fun e w' => e = .returned (.bool true) ∧ Below w.heap.size w w' :=
  FnExactSortWork_law a0 len0 cap0 xs0 w h0 (sortY xs0) (sortY_len xs0) (goodW xs0) (fun v0 w r0 => sSortWork_any v0 xs0 w r0) (fun v0 w r0 => iSortWork_any v0 xs0 w r0)
end Go.Proofs.Ytndbdioignmaeau
