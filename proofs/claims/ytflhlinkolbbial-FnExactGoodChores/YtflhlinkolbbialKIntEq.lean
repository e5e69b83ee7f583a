/-
  laws.eqIntS with true for two slices that read alike; nothing old is written.
-/
import Derived.Test.YtflhlinkolbbialKIntRows
import Derived.Test.YtflhlinkolbbialIntsEq
namespace Go.Proofs.Ytflhlinkolbbial
open Go.RowKit

theorem keqIntS_same (va vb : Value) (xs : List KEl) (w : World) (ha : KReads w va xs) (hb : KReads w vb xs) :
    Calls Try.prog 15 #[va, vb] w fun e w' => e = .returned (.bool true) ∧ Below w.heap.size w w' := eqIntS_same va vb xs w ha.r hb.r
end Go.Proofs.Ytflhlinkolbbial
