/-
  laws.toIntS answers with new ones that read as its argument; nothing old is written.
-/
import Derived.Test.YtdlkilacnnjglaaKIntRows
import Derived.Test.YtdlkilacnnjglaaIntsTo
namespace Go.Proofs.Ytdlkilacnnjglaa
open Go.RowKit

theorem ktoIntS_any (va : Value) (xs : List KEl) (w : World) (ha : KReads w va xs) (hx : xs.length ≤ 1048576) :
    Calls Try.prog 10 #[va] w fun e w' => ∃ v, e = .returned v ∧ KOwn w.heap.size w'.heap.size w' v xs ∧ Below w.heap.size w w' :=
  (toIntS_any va xs w ha.r hx).mono fun _ _ ⟨v, e, o, b⟩ => ⟨v, e, KOwn.of_row o, b⟩
end Go.Proofs.Ytdlkilacnnjglaa
