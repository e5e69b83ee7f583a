/-
  The law FnExactNewCourt answers true at any ends.
-/
import Derived.Test.YtdlkilacnnjglaaNewCourtLaw
import Derived.Test.YtdlkilacnnjglaaSNewCo
import Derived.Test.YtdlkilacnnjglaaINewCo
namespace Go.Proofs.Ytdlkilacnnjglaa
open Go.RowKit

theorem FnExactNewCourt_walk (a0 : Option Addr) (len0 cap0 : Nat) (D0 : List Int) (w : World) (h0 : KArg w a0 len0 cap0 D0) :
    Calls Try.prog 3 #[.slice a0 len0 cap0] w fun e w' => e = .returned (.bool true) ∧ Below w.heap.size w w' :=
  FnExactNewCourt_law a0 len0 cap0 D0 w h0 (newC D0).1 (by have h := newC_len D0; unfold coTot; rw [h.2]; simp; omega) (newC D0).2
    (fun v w r => (snewCo_any v D0 _ _ rfl w r).mono fun _ _ ⟨u, e, o, b⟩ => ⟨u, e, o.own, b⟩) (fun v w r => (inewCo_any v D0 _ _ rfl w r).mono fun _ _ ⟨u, e, o, b⟩ => ⟨u, e, o.own, b⟩)
end Go.Proofs.Ytdlkilacnnjglaa
