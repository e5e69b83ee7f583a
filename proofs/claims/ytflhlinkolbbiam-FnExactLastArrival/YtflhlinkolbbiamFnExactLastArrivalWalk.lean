/-
  The law FnExactLastArrival answers true at every argument.
-/
import Derived.Test.YtflhlinkolbbiamLastArrivalLaw
import Derived.Test.YtflhlinkolbbiamSLastA
import Derived.Test.YtflhlinkolbbiamILastA
namespace Go.Proofs.Ytflhlinkolbbiam
open Go.RowKit

theorem FnExactLastArrival_walk (a0 : Option Addr) (len0 cap0 : Nat) (xs0 : List WyEl) (a1 : Option Addr) (len1 cap1 : Nat) (xs1 : List Int) (w : World) (h0 : WyArg w a0 len0 cap0 xs0) (h1 : KArg w a1 len1 cap1 xs1) :
    Calls Try.prog 7 #[.slice a0 len0 cap0, .slice a1 len1 cap1] w fun e w' => e = .returned (.bool true) ∧ Below w.heap.size w w' := by
  exact FnExactLastArrival_law a0 len0 cap0 xs0 a1 len1 cap1 xs1 w h0 h1 (laZ xs0 xs1) (lcB xs0 xs1) (fun v0 v1 w r0 r1 => slastFn_any v0 v1 xs0 xs1 w r0 r1) (fun v0 v1 w r0 r1 => ilastFn_any v0 v1 xs0 xs1 w r0 r1)
end Go.Proofs.Ytflhlinkolbbiam
