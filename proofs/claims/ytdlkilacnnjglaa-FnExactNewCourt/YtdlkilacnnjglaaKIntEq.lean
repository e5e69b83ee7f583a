/-
  laws.eqIntS with true for two slices that read alike; nothing old is written.
-/
import Derived.Test.YtdlkilacnnjglaaKIntRows
import Derived.Test.YtdlkilacnnjglaaIntsEq
namespace Go.Proofs.Ytdlkilacnnjglaa
open Go.RowKit

theorem keqIntS_same (va vb : Value) (xs : List KEl) (w : World) (ha : KReads w va xs) (hb : KReads w vb xs) :
    Calls Try.prog 13 #[va, vb] w fun e w' => e = .returned (.bool true) ∧ Below w.heap.size w w' := eqIntS_same va vb xs w ha.r hb.r
end Go.Proofs.Ytdlkilacnnjglaa
