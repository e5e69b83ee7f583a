/-
  spec.NewBucket: a full bucket. Nothing old is written.
-/
import Derived.Test.YtcieefggijjekazSRate7
import Derived.Test.YtcieefggijjekazBkForm
namespace Go.Proofs.Ytcieefggijjekaz
open Go.RowKit

set_option maxHeartbeats 2000000 in
theorem snew_no (r d : Int) (h : rateB r d = false) (w : World) : Calls Try.prog 28 #[.int .i64 r, .int .i64 d] w fun e w' => e = .returned (.tuple #[bkV (0, 0, 0), .bool false]) ∧ Below w.heap.size w w' := by
  have H1 := hid h
  clear h
  go_enter Try.func28, Try.ntmps28
  go_wp2_with fail
  refine (srate_eq r d false H1.out _).mono ?_
  rintro e w' ⟨rfl, hw⟩; obtain rfl := hw.symm
  go_wp2
  go_returns
  exact ⟨rfl, by go_grown⟩
set_option maxHeartbeats 2000000 in
theorem snew_yes (r d : Int) (h : rateB r d = true) (w : World) : Calls Try.prog 28 #[.int .i64 r, .int .i64 d] w fun e w' => e = .returned (.tuple #[bkV (r, d, d), .bool true]) ∧ Below w.heap.size w w' := by
  have H1 := hid h
  clear h
  go_enter Try.func28, Try.ntmps28
  go_wp2_with fail
  refine (srate_eq r d true H1.out _).mono ?_
  rintro e w' ⟨rfl, hw⟩; obtain rfl := hw.symm
  go_wp2
  go_returns
  exact ⟨rfl, by go_grown⟩
end Go.Proofs.Ytcieefggijjekaz
