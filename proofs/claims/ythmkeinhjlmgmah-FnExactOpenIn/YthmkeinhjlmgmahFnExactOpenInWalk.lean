/-
  The law FnExactOpenIn answers true at any sender.
-/
import Derived.Test.YthmkeinhjlmgmahOpenInLaw
import Derived.Test.YthmkeinhjlmgmahSOpen11
import Derived.Test.YthmkeinhjlmgmahIOpen11
namespace Go.Proofs.Ythmkeinhjlmgmah
open Go.RowKit

theorem openL_len (D : SdD) : (openL D).length ≤ 1048576 := by
  unfold openL
  cases h : goodSd D
  · simp
  · have h1 := (goodSd_few h).1
    have h2 := openU_len D.f1 D.f2 D.f0.toNat
    show (openU D.f1 D.f2 D.f0.toNat).length ≤ _
    omega
theorem FnExactOpenIn_walk (v0 : Value) (D0 : SdD) (w : World) (h0 : SdArg w v0 D0) :
    Calls Try.prog 8 #[v0] w fun e w' => e = .returned (.bool true) ∧ Below w.heap.size w w' :=
  FnExactOpenIn_law v0 D0 w h0 (openL D0) (openL_len D0) (goodSd D0) (fun v w r => sopen_any v D0 w r _ _ rfl rfl) (fun v w r => iopen_any v D0 w r _ _ rfl rfl)
end Go.Proofs.Ythmkeinhjlmgmah
