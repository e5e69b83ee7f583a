/-
  The law FnExactGoodTurns answers true at any turns.
-/
import Derived.Test.YtnnmiddhbeiogbaGoodTurnsLaw
import Derived.Test.YtnnmiddhbeiogbaSGoodT
import Derived.Test.YtnnmiddhbeiogbaIGoodT
namespace Go.Proofs.Ytnnmiddhbeiogba
open Go.RowKit

theorem FnExactGoodTurns_walk (v0 : Value) (D0 : TuD) (w : World) (h0 : TuArg w v0 D0) :
    Calls Try.prog 3 #[v0] w fun e w' => e = .returned (.bool true) ∧ Below w.heap.size w w' :=
  FnExactGoodTurns_law v0 D0 w h0 (goodTu D0) (fun v w r => sgoodT_eq v D0 _ rfl w r) (fun v w r => igoodT_eq v D0 _ rfl w r)
end Go.Proofs.Ytnnmiddhbeiogba
