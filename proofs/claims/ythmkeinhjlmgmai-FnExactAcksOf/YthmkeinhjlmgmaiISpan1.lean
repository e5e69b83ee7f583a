/-
  impl.spanOf: the span of one letter. Nothing old is written.
-/
import Derived.Test.YthmkeinhjlmgmaiSpans
namespace Go.Proofs.Ythmkeinhjlmgmai
open Go.RowKit

set_option maxRecDepth 100000 in
set_option maxHeartbeats 2000000 in
theorem ispan1_any (x y : Int) (hy : y = x + 1) (hx : 0 ≤ x ∧ x ≤ 1000000) (w : World) :
    Calls Try.prog 35 #[.int .i64 x] w fun e w' => e = .returned (.agg #[.int .i64 x, .int .i64 y]) ∧ Below w.heap.size w w' := by
  have hw1 : IntKind.i64.wrap (x + 1) = y := by rw [hy, IntKind.wrap_i64]; omega
  clear hy hx
  go_enter Try.func35, Try.ntmps35
  go_wp2
  exact bodyPost_ret (v := .agg #[.int .i64 x, .int .i64 y]) (by simp [results, Try.results35, go_sem]) rfl ⟨rfl, (Below.refl _ _).alloc (Nat.le_refl _) _⟩
end Go.Proofs.Ythmkeinhjlmgmai
