/-
  The law FnExactIsWhole answers true at any texts.
-/
import Derived.Test.YtijojdempijhbajIsWholeLaw
import Derived.Test.YtijojdempijhbajSWhole
import Derived.Test.YtijojdempijhbajIWhole
namespace Go.Proofs.Ytijojdempijhbaj
open Go.RowKit

theorem FnExactIsWhole_walk (a0 : Option Addr) (len0 cap0 : Nat) (xs0 : List XEl) (w : World) (hrow0 : XArg w a0 len0 cap0 xs0) :
    Calls Try.prog 3 #[.slice a0 len0 cap0] w fun e w' => e = .returned (.bool true) ∧ Below w.heap.size w w' :=
  FnExactIsWhole_law a0 len0 cap0 xs0 w hrow0 (wholeB xs0) (goodP xs0) (fun v w hr => swhole_any v xs0 _ _ rfl rfl w hr) (fun v w hr => iwhole_any v xs0 _ _ rfl rfl w hr)
end Go.Proofs.Ytijojdempijhbaj
