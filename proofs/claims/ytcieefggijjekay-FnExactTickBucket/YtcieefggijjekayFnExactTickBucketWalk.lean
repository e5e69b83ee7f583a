/-
  The law FnExactTickBucket answers true at every bucket.
-/
import Derived.Test.YtcieefggijjekayTickBucketLaw
import Derived.Test.YtcieefggijjekaySBktFn
import Derived.Test.YtcieefggijjekayITickB
namespace Go.Proofs.Ytcieefggijjekay
open Go.RowKit

theorem FnExactTickBucket_walk (x0 : BkEl) (w : World) :
    Calls Try.prog 8 #[(.agg #[.int .i64 x0.1, .int .i64 x0.2.1, .int .i64 x0.2.2])] w fun e w' => e = .returned (.bool true) ∧ Below w.heap.size w w' := by
  cases h : bktB x0 with
  | true => exact FnExactTickBucket_law x0 w (tickK x0) true (fun w => stickfn_yes x0 h w) (fun w => itickfn_yes x0 h w)
  | false => exact FnExactTickBucket_law x0 w (0, 0, 0) false (fun w => stickfn_no x0 h w) (fun w => itickfn_no x0 h w)
end Go.Proofs.Ytcieefggijjekay
