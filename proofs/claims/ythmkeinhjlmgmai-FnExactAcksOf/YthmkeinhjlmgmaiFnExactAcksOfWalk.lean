/-
  The law FnExactAcksOf answers true at any order.
-/
import Derived.Test.YthmkeinhjlmgmaiAcksOfLaw
import Derived.Test.YthmkeinhjlmgmaiSAcks11
import Derived.Test.YthmkeinhjlmgmaiIAcks11
namespace Go.Proofs.Ythmkeinhjlmgmai
open Go.RowKit

theorem acksY_len (xs : List Int) : (acksY xs).length ≤ 1048576 := by
  unfold acksY
  cases h : acksB xs
  · simp
  · unfold acksB at h
    rw [Bool.and_eq_true, decide_eq_true_eq] at h
    show (acksU xs xs.length).length ≤ _
    omega
theorem FnExactAcksOf_walk (a0 : Option Addr) (len0 cap0 : Nat) (xs0 : List Int) (w : World) (hin : ∀ x ∈ xs0, inW x) (hrow0 : KArg w a0 len0 cap0 xs0) :
    Calls Try.prog 3 #[.slice a0 len0 cap0] w fun e w' => e = .returned (.bool true) ∧ Below w.heap.size w w' :=
  FnExactAcksOf_law a0 len0 cap0 xs0 w hrow0 (acksY xs0) (acksY_len xs0) (acksB xs0) (fun v w r => sacks_any v xs0 w r _ _ rfl rfl) (fun v w r => iacks_any v xs0 w r hin _ _ rfl rfl)
end Go.Proofs.Ythmkeinhjlmgmai
