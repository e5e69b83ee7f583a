/-
  The law FnExactNewGreet answers true.
-/
import Derived.Test.YtbpbhbflfhfcfaaNewGreetLaw
import Derived.Test.YtbpbhbflfhfcfaaSNewGr
namespace Go.Proofs.Ytbpbhbflfhfcfaa
open Go.RowKit

theorem FnExactNewGreet_walk (w : World) :
    Calls Try.prog 4 #[] w fun e w' => e = .returned (.bool true) ∧ Below w.heap.size w w' :=
  FnExactNewGreet_law w newG (by decide) (fun w => (snewGr_any w).mono fun _ _ ⟨u0, e, o, b⟩ => ⟨u0, e, o.own, b⟩) (fun w => (inewGr_any w).mono fun _ _ ⟨u0, e, o, b⟩ => ⟨u0, e, o.own, b⟩)
end Go.Proofs.Ytbpbhbflfhfcfaa
