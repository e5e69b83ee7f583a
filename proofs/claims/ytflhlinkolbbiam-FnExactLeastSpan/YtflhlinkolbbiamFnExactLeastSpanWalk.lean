/-
  The law FnExactLeastSpan answers true at every argument.
-/
import Derived.Test.YtflhlinkolbbiamLeastSpanLaw
import Derived.Test.YtflhlinkolbbiamSLeastFn
import Derived.Test.YtflhlinkolbbiamILeastFn
namespace Go.Proofs.Ytflhlinkolbbiam
open Go.RowKit

theorem FnExactLeastSpan_walk (a0 : Option Addr) (len0 cap0 : Nat) (xs0 : List Int) (n1 : Int) (w : World) (h0 : KArg w a0 len0 cap0 xs0) :
    Calls Try.prog 5 #[.slice a0 len0 cap0, .int .i64 n1] w fun e w' => e = .returned (.bool true) ∧ Below w.heap.size w w' := by
  exact FnExactLeastSpan_law a0 len0 cap0 xs0 n1 w h0 (leZ xs0 n1) (chB xs0 n1) (fun v0 w r0 => sleastFn_any v0 xs0 n1 w r0) (fun v0 w r0 => ileastFn_any v0 xs0 n1 w r0)
end Go.Proofs.Ytflhlinkolbbiam
