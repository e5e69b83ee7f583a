/-
  The law FnExactNewSender answers true at any number.
-/
import Derived.Test.YthmkeinhjlmgmahNewSenderLaw
import Derived.Test.YthmkeinhjlmgmahSNewSd
import Derived.Test.YthmkeinhjlmgmahINewSd
namespace Go.Proofs.Ythmkeinhjlmgmah
open Go.RowKit

theorem newSd_tot (n : Int) : sdTot (newSd n) ≤ 1048576 := by
  unfold newSd
  cases newSdB n
  · show sdTot zeroSd ≤ _
    decide
  · show sdTot ⟨n, [], []⟩ ≤ _
    simp [sdTot]
theorem FnExactNewSender_walk (n0 : Int) (w : World) :
    Calls Try.prog 4 #[.int .i64 n0] w fun e w' => e = .returned (.bool true) ∧ Below w.heap.size w w' :=
  FnExactNewSender_law n0 w (newSd n0) (newSd_tot n0) (newSdB n0) (fun w => snewSd_any n0 w _ _ rfl rfl) (fun w => inewSd_any n0 w _ _ rfl rfl)
end Go.Proofs.Ythmkeinhjlmgmah
