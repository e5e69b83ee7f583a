/-
  The law FnExactTotalSent answers true at any turns.
-/
import Derived.Test.YtnnmiddhbeiogbaTotalSentLaw
import Derived.Test.YtnnmiddhbeiogbaSTotal
import Derived.Test.YtnnmiddhbeiogbaITotal
namespace Go.Proofs.Ytnnmiddhbeiogba
open Go.RowKit

theorem FnExactTotalSent_walk (v0 : Value) (D0 : TuD) (w : World) (h0 : TuArg w v0 D0) :
    Calls Try.prog 7 #[v0] w fun e w' => e = .returned (.bool true) ∧ Below w.heap.size w w' :=
  FnExactTotalSent_law v0 D0 w h0 (totV D0) (goodTu D0) (fun v w r => stotal_eq v D0 w r) (fun v w r => itotal_eq v D0 w r)
end Go.Proofs.Ytnnmiddhbeiogba
