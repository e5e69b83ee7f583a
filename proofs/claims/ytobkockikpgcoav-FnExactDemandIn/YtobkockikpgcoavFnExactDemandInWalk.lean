/-
  The law FnExactDemandIn answers true at every list of jobs and every while.
-/
import Derived.Test.YtobkockikpgcoavDemandInLaw
import Derived.Test.YtobkockikpgcoavDemFns
namespace Go.Proofs.Ytobkockikpgcoav
open Go.RowKit

theorem FnExactDemandIn_walk (a0 : Option Addr) (len0 cap0 : Nat) (xs0 : List JbEl) (n1 n2 : Int) (w : World) (h0 : JbArg w a0 len0 cap0 xs0) :
    Calls Try.prog 6 #[.slice a0 len0 cap0, .int .i64 n1, .int .i64 n2] w fun e w' => e = .returned (.bool true) ∧ Below w.heap.size w w' :=
  FnExactDemandIn_law a0 len0 cap0 xs0 n1 n2 w h0 (demN xs0 n1 n2) (demOk xs0 n1 n2) (fun v0 w r0 => sdemandIn_any v0 xs0 n1 n2 w r0) (fun v0 w r0 => idemandIn_any v0 xs0 n1 n2 w r0)
end Go.Proofs.Ytobkockikpgcoav
