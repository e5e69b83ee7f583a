/-
  The law FnExactBestSpan answers true at every argument.
-/
import Derived.Test.YtflhlinkolbbiamBestSpanLaw
import Derived.Test.YtflhlinkolbbiamSBestFn
import Derived.Test.YtflhlinkolbbiamIBestFn
namespace Go.Proofs.Ytflhlinkolbbiam
open Go.RowKit

theorem FnExactBestSpan_walk (a0 : Option Addr) (len0 cap0 : Nat) (xs0 : List Int) (n1 : Int) (w : World) (h0 : KArg w a0 len0 cap0 xs0) :
    Calls Try.prog 4 #[.slice a0 len0 cap0, .int .i64 n1] w fun e w' => e = .returned (.bool true) ∧ Below w.heap.size w w' := by
  exact FnExactBestSpan_law a0 len0 cap0 xs0 n1 w h0 (beZ xs0 n1) (chB xs0 n1) (fun v0 w r0 => sbestFn_any v0 xs0 n1 w r0) (fun v0 w r0 => ibestFn_any v0 xs0 n1 w r0)
end Go.Proofs.Ytflhlinkolbbiam
