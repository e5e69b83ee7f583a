/-
  The law FnExactNextTurn answers true at any turns.
-/
import Derived.Test.YteeaebelknpdjbaNextTurnLaw
import Derived.Test.YteeaebelknpdjbaSNext
import Derived.Test.YteeaebelknpdjbaSNextNo
import Derived.Test.YteeaebelknpdjbaINext
import Derived.Test.YteeaebelknpdjbaINextNo
namespace Go.Proofs.Yteeaebelknpdjba
open Go.RowKit

theorem FnExactNextTurn_walk (v0 : Value) (D0 : TuD) (w : World) (h0 : TuArg w v0 D0) :
    Calls Try.prog 5 #[v0] w fun e w' => e = .returned (.bool true) ∧ Below w.heap.size w w' := by
  cases hg : nextOk D0 with
  | true =>
    have h := hg
    unfold nextOk at h
    rw [Bool.and_eq_true] at h
    have hgd := goodT_of h.1
    exact FnExactNextTurn_law v0 D0 w h0 (stepD D0) (goodT_tot (goodT_of h.2)) (sendT D0 (atN D0)) (Nat.le_trans (send_len hgd (at_lt hgd)) (by omega)) true (fun v w r => snext_yes v D0 w r hg) (fun v w r => inext_yes v D0 w r hg)
  | false => exact FnExactNextTurn_law v0 D0 w h0 noT (by decide) [] (by simp) false (fun v w r => snext_no v D0 w r hg) (fun v w r => inext_no v D0 w r hg)
end Go.Proofs.Yteeaebelknpdjba
