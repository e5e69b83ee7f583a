/-
  laws.eqIntS with true for two slices that read alike; nothing old is written.
-/
import Derived.Test.YtflhlinkolbbiamKIntRows
import Derived.Test.YtflhlinkolbbiamIntsEq
namespace Go.Proofs.Ytflhlinkolbbiam
open Go.RowKit

theorem keqIntS_same (va vb : Value) (xs : List KEl) (w : World) (ha : KReads w va xs) (hb : KReads w vb xs) :
    Calls Try.prog 11 #[va, vb] w fun e w' => e = .returned (.bool true) ∧ Below w.heap.size w w' := eqIntS_same va vb xs w ha.r hb.r
end Go.Proofs.Ytflhlinkolbbiam
