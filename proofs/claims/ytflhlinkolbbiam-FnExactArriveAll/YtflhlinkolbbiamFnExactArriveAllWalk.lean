/-
  The law FnExactArriveAll answers true at every argument.
-/
import Derived.Test.YtflhlinkolbbiamArriveAllLaw
import Derived.Test.YtflhlinkolbbiamSArrive
import Derived.Test.YtflhlinkolbbiamIArrive
namespace Go.Proofs.Ytflhlinkolbbiam
open Go.RowKit

theorem FnExactArriveAll_walk (a0 : Option Addr) (len0 cap0 : Nat) (xs0 : List WyEl) (n1 : Int) (w : World) (h0 : WyArg w a0 len0 cap0 xs0) :
    Calls Try.prog 6 #[.slice a0 len0 cap0, .int .i64 n1] w fun e w' => e = .returned (.bool true) ∧ Below w.heap.size w w' := by
  exact FnExactArriveAll_law a0 len0 cap0 xs0 n1 w h0 (aaL xs0 n1) (aaL_len _ _) (aaZ xs0 n1) (aaB xs0 n1) (fun v0 w r0 => sarriveFn_any v0 xs0 n1 w r0) (fun v0 w r0 => iarriveFn_any v0 xs0 n1 w r0)
end Go.Proofs.Ytflhlinkolbbiam
