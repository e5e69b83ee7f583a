/-
  The law FnExactWaitingIn answers true at any turns.
-/
import Derived.Test.YtnnmiddhbeiogbaWaitingInLaw
import Derived.Test.YtnnmiddhbeiogbaSWaiting
import Derived.Test.YtnnmiddhbeiogbaIWaiting
namespace Go.Proofs.Ytnnmiddhbeiogba
open Go.RowKit

theorem FnExactWaitingIn_walk (v0 : Value) (D0 : TuD) (w : World) (h0 : TuArg w v0 D0) :
    Calls Try.prog 8 #[v0] w fun e w' => e = .returned (.bool true) ∧ Below w.heap.size w w' :=
  FnExactWaitingIn_law v0 D0 w h0 (waitV D0) (goodTu D0) (fun v w r => swaiting_eq v D0 w r) (fun v w r => iwaiting_eq v D0 w r)
end Go.Proofs.Ytnnmiddhbeiogba
