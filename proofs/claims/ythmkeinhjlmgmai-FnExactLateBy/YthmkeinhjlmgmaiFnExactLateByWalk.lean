/-
  The law FnExactLateBy answers true at any order.
-/
import Derived.Test.YthmkeinhjlmgmaiLateByLaw
import Derived.Test.YthmkeinhjlmgmaiSLate11
import Derived.Test.YthmkeinhjlmgmaiILate11
namespace Go.Proofs.Ythmkeinhjlmgmai
open Go.RowKit

theorem FnExactLateBy_walk (a0 : Option Addr) (len0 cap0 : Nat) (xs0 : List Int) (w : World) (hin : ∀ x ∈ xs0, inW x) (hrow0 : KArg w a0 len0 cap0 xs0) :
    Calls Try.prog 4 #[.slice a0 len0 cap0] w fun e w' => e = .returned (.bool true) ∧ Below w.heap.size w w' :=
  FnExactLateBy_law a0 len0 cap0 xs0 w hrow0 (lateN xs0) (oruB xs0 60) (fun v w r => slate11_any v xs0 w r _ _ rfl rfl) (fun v w r => ilate11_any v xs0 w r hin _ _ rfl rfl)
end Go.Proofs.Ythmkeinhjlmgmai
