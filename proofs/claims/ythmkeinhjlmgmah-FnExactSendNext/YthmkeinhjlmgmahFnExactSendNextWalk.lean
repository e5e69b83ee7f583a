/-
  The law FnExactSendNext answers true at any sender.
-/
import Derived.Test.YthmkeinhjlmgmahSendNextLaw
import Derived.Test.YthmkeinhjlmgmahSSendNext
import Derived.Test.YthmkeinhjlmgmahISendNext
namespace Go.Proofs.Ythmkeinhjlmgmah
open Go.RowKit

theorem nextSd_tot (D : SdD) : sdTot (nextSd D) ≤ 1048576 := by
  unfold nextSd
  cases h : nextB D
  · show sdTot zeroSd ≤ _
    decide
  · unfold nextB at h
    rw [Bool.and_eq_true] at h
    have h1 := goodSd_small h.1
    show D.f1.length + D.f2.length ≤ _
    omega
theorem FnExactSendNext_walk (v0 : Value) (D0 : SdD) (w : World) (h0 : SdArg w v0 D0) :
    Calls Try.prog 6 #[v0] w fun e w' => e = .returned (.bool true) ∧ Below w.heap.size w w' :=
  FnExactSendNext_law v0 D0 w h0 (nextSd D0) (nextSd_tot D0) (nextN D0) (nextB D0) (fun v w r => ssendNext_any v D0 w r _ _ _ rfl rfl rfl) (fun v w r => isendNext_any v D0 w r _ _ _ rfl rfl rfl)
end Go.Proofs.Ythmkeinhjlmgmah
