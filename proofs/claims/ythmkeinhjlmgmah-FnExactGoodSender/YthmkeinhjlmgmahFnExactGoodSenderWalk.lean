/-
  The law FnExactGoodSender answers true at any sender.
-/
import Derived.Test.YthmkeinhjlmgmahGoodSenderLaw
import Derived.Test.YthmkeinhjlmgmahSGoodSd
import Derived.Test.YthmkeinhjlmgmahIGoodSd
namespace Go.Proofs.Ythmkeinhjlmgmah
open Go.RowKit

theorem FnExactGoodSender_walk (v0 : Value) (D0 : SdD) (w : World) (h0 : SdArg w v0 D0) :
    Calls Try.prog 5 #[v0] w fun e w' => e = .returned (.bool true) ∧ Below w.heap.size w w' :=
  FnExactGoodSender_law v0 D0 w h0 (goodSd D0) (fun v w r => sgoodSd_eq v D0 _ rfl w r) (fun v w r => igoodSd_eq v D0 _ rfl w r)
end Go.Proofs.Ythmkeinhjlmgmah
