/-
  The law FnExactHasHello answers true at any letters and any letter.
-/
import Derived.Test.YtgdclnejlhfhlanHasHelloLaw
import Derived.Test.YtgdclnejlhfhlanSHasHe
import Derived.Test.YtgdclnejlhfhlanIHasHe
namespace Go.Proofs.Ytgdclnejlhfhlan
open Go.RowKit

theorem FnExactHasHello_walk (a0 : Option Addr) (len0 cap0 : Nat) (xs0 : List HeEl) (x1 : HeEl) (w : World) (hrow0 : HeArg w a0 len0 cap0 xs0) :
    Calls Try.prog 8 #[.slice a0 len0 cap0, (.agg #[.int .i64 x1.1, .int .i64 x1.2.1, .int .i64 x1.2.2])] w fun e w' => e = .returned (.bool true) ∧ Below w.heap.size w w' :=
  FnExactHasHello_law a0 len0 cap0 xs0 x1 w hrow0 _ _ (fun v w r => shasHe_any v xs0 x1 w r) (fun v w r => ihasHe_any v xs0 x1 w r)
end Go.Proofs.Ytgdclnejlhfhlan
