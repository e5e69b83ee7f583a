/-
  The law FnExactSpanOf answers true at every argument.
-/
import Derived.Test.YtflhlinkolbbiamSpanOfLaw
import Derived.Test.YtflhlinkolbbiamSSpanOf
import Derived.Test.YtflhlinkolbbiamISpanOf
namespace Go.Proofs.Ytflhlinkolbbiam
open Go.RowKit

theorem FnExactSpanOf_walk (a0 : Option Addr) (len0 cap0 : Nat) (xs0 : List Int) (n1 : Int) (a2 : Option Addr) (len2 cap2 : Nat) (xs2 : List Int) (w : World) (h0 : KArg w a0 len0 cap0 xs0) (h2 : KArg w a2 len2 cap2 xs2) :
    Calls Try.prog 3 #[.slice a0 len0 cap0, .int .i64 n1, .slice a2 len2 cap2] w fun e w' => e = .returned (.bool true) ∧ Below w.heap.size w w' := by
  exact FnExactSpanOf_law a0 len0 cap0 xs0 n1 a2 len2 cap2 xs2 w h0 h2 (soN xs0 xs2 n1) (giB xs0 xs2 n1) (fun v0 v2 w r0 r2 => sspanOf_any v0 v2 xs0 xs2 n1 w r0 r2) (fun v0 v2 w r0 r2 => ispanOf_any v0 v2 xs0 xs2 n1 w r0 r2)
end Go.Proofs.Ytflhlinkolbbiam
