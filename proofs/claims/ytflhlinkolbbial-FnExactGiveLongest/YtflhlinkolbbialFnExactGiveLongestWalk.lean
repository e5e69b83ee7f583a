/-
  The law FnExactGiveLongest answers true at every argument.
-/
import Derived.Test.YtflhlinkolbbialGiveLongestLaw
import Derived.Test.YtflhlinkolbbialSGiveL
import Derived.Test.YtflhlinkolbbialIGiveL
namespace Go.Proofs.Ytflhlinkolbbial
open Go.RowKit

theorem FnExactGiveLongest_walk (a0 : Option Addr) (len0 cap0 : Nat) (xs0 : List Int) (n1 : Int) (w : World) (h0 : KArg w a0 len0 cap0 xs0) :
    Calls Try.prog 6 #[.slice a0 len0 cap0, .int .i64 n1] w fun e w' => e = .returned (.bool true) ∧ Below w.heap.size w w' := by
  exact FnExactGiveLongest_law a0 len0 cap0 xs0 n1 w h0 (giL longK xs0 n1) (giL_len _ _ _) (giN longK xs0 n1) (chB xs0 n1) (fun v0 w r0 => sgiveL_any v0 xs0 n1 w r0) (fun v0 w r0 => igiveL_any v0 xs0 n1 w r0)
end Go.Proofs.Ytflhlinkolbbial
