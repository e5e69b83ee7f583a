/-
  The law FnExactGoodCourt answers true at any court.
-/
import Derived.Test.YtdlkilacnnjglaaGoodCourtLaw
import Derived.Test.YtdlkilacnnjglaaSGoodCo
import Derived.Test.YtdlkilacnnjglaaIGoodCo
namespace Go.Proofs.Ytdlkilacnnjglaa
open Go.RowKit

theorem FnExactGoodCourt_walk (v0 : Value) (D0 : CoD) (w : World) (h0 : CoArg w v0 D0) :
    Calls Try.prog 4 #[v0] w fun e w' => e = .returned (.bool true) ∧ Below w.heap.size w w' :=
  FnExactGoodCourt_law v0 D0 w h0 (goodC D0) (fun v w r => sgoodCo_eq v D0 _ rfl w r) (fun v w r => igoodCo_eq v D0 _ rfl w r)
end Go.Proofs.Ytdlkilacnnjglaa
