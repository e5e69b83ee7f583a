/-
  The law FnExactNewBucket answers true at every rate and depth.
-/
import Derived.Test.YtcieefggijjekayNewBucketLaw
import Derived.Test.YtcieefggijjekaySNewB
import Derived.Test.YtcieefggijjekayINewB
namespace Go.Proofs.Ytcieefggijjekay
open Go.RowKit

theorem FnExactNewBucket_walk (n0 : Int) (n1 : Int) (w : World) :
    Calls Try.prog 6 #[.int .i64 n0, .int .i64 n1] w fun e w' => e = .returned (.bool true) ∧ Below w.heap.size w w' := by
  cases h : rateB n0 n1 with
  | true => exact FnExactNewBucket_law n0 n1 w (n0, n1, n1) true (fun w => snew_yes n0 n1 h w) (fun w => inew_yes n0 n1 h w)
  | false => exact FnExactNewBucket_law n0 n1 w (0, 0, 0) false (fun w => snew_no n0 n1 h w) (fun w => inew_no n0 n1 h w)
end Go.Proofs.Ytcieefggijjekay
