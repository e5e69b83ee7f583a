/-
  The law FnExactRowsHit answers true at any numbers.
-/
import Derived.Test.YthmkeinhjlmgmajRowsHitLaw
import Derived.Test.YthmkeinhjlmgmajSRowsHit
import Derived.Test.YthmkeinhjlmgmajIRowsHit
namespace Go.Proofs.Ythmkeinhjlmgmaj
open Go.RowKit

theorem FnExactRowsHit_walk (n0 n1 n2 n3 : Int) (w : World) (_w0 : (Lit.int .i64 n0).wf = true) (_w1 : (Lit.int .i64 n1).wf = true) (w2 : (Lit.int .i64 n2).wf = true) (_w3 : (Lit.int .i64 n3).wf = true) :
    Calls Try.prog 7 #[.int .i64 n0, .int .i64 n1, .int .i64 n2, .int .i64 n3] w fun e w' => e = .returned (.bool true) ∧ Below w.heap.size w w' :=
  FnExactRowsHit_law n0 n1 n2 n3 w (hitL n0 n1 n2 n3) (Nat.le_trans (hitL_len _ _ _ _) (by decide)) (hitB n0 n1 n2 n3) (fun w => srows_any n0 n1 n2 n3 w _ _ rfl rfl) (fun w => irows_any n0 n1 n2 n3 w w2 _ _ rfl rfl)
end Go.Proofs.Ythmkeinhjlmgmaj
