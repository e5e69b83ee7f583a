/-
  The law FnExactGoodChores answers true at every argument.
-/
import Derived.Test.YtflhlinkolbbialGoodChoresLaw
import Derived.Test.YtflhlinkolbbialSGoodCh
import Derived.Test.YtflhlinkolbbialIGoodCh
namespace Go.Proofs.Ytflhlinkolbbial
open Go.RowKit

theorem FnExactGoodChores_walk (a0 : Option Addr) (len0 cap0 : Nat) (xs0 : List Int) (n1 : Int) (w : World) (h0 : KArg w a0 len0 cap0 xs0) :
    Calls Try.prog 4 #[.slice a0 len0 cap0, .int .i64 n1] w fun e w' => e = .returned (.bool true) ∧ Below w.heap.size w w' := by
  exact FnExactGoodChores_law a0 len0 cap0 xs0 n1 w h0 (chB xs0 n1) (fun v0 w r0 => (sgoodCh_eq v0 xs0 n1 _ rfl w r0).mono fun e w' h => ⟨h.1, by rw [h.2]; exact Below.refl _ _⟩) (fun v0 w r0 => igoodCh_eq v0 xs0 n1 _ rfl w r0)
end Go.Proofs.Ytflhlinkolbbial
