/-
  spec.l7Tick: a bucket a tick on. Nothing old is written.
-/
import Derived.Test.YtcieefggijjekacSLeast7
import Derived.Test.YtcieefggijjekacBkForm
namespace Go.Proofs.Ytcieefggijjekac
open Go.RowKit

set_option maxHeartbeats 2000000 in
theorem stick_any (x : BkEl) (hb : bktB x = true) (w : World) : Calls Try.prog 35 #[bkV x] w fun e w' => e = .returned (bkV (tickK x)) ∧ Below w.heap.size w w' := by
  obtain ⟨r, d, q⟩ := x
  have hx : rateB r d = true ∧ (0 ≤ q ∧ q ≤ d) := by
    have : (rateB r d && decide (0 ≤ q ∧ q ≤ d)) = true := hb
    rw [Bool.and_eq_true, decide_eq_true_eq] at this
    exact this
  have hrd := rateB_in hx.1
  have hw1 : IntKind.i64.wrap (q + r) = q + r := by rw [IntKind.wrap_i64]; omega
  show Calls Try.prog 35 #[.agg #[.int .i64 r, .int .i64 d, .int .i64 q]] w fun e w' => e = .returned (.agg #[.int .i64 r, .int .i64 d, .int .i64 (lst7 d (q + r))]) ∧ Below w.heap.size w w'
  clear hx hb
  go_enter Try.func35, Try.ntmps35
  go_wp2_with fail
  refine (least7_any d (q + r) _).mono ?_
  rintro e w' ⟨rfl, hw⟩; obtain rfl := hw.symm
  go_wp2
  go_returns
  exact ⟨rfl, by go_grown⟩
end Go.Proofs.Ytcieefggijjekac
