/-
  The law FnExactTakeBucket answers true at every bucket.
-/
import Derived.Test.YtcieefggijjekazTakeBucketLaw
import Derived.Test.YtcieefggijjekazSTake
import Derived.Test.YtcieefggijjekazITakeB
namespace Go.Proofs.Ytcieefggijjekaz
open Go.RowKit

theorem FnExactTakeBucket_walk (x0 : BkEl) (n1 : Int) (w : World) :
    Calls Try.prog 3 #[(.agg #[.int .i64 x0.1, .int .i64 x0.2.1, .int .i64 x0.2.2]), .int .i64 n1] w fun e w' => e = .returned (.bool true) ∧ Below w.heap.size w w' := by
  cases h : takeF x0 n1 with
  | true => exact FnExactTakeBucket_law x0 n1 w (x0.1, x0.2.1, x0.2.2 - n1) true (fun w => stakefn_yes x0 n1 h w) (fun w => itakefn_yes x0 n1 h w)
  | false => exact FnExactTakeBucket_law x0 n1 w (0, 0, 0) false (fun w => stakefn_no x0 n1 h w) (fun w => itakefn_no x0 n1 h w)
end Go.Proofs.Ytcieefggijjekaz
