/-
  The law FnExactGoodBucket answers true at every bucket.
-/
import Derived.Test.YtcieefggijjekayGoodBucketLaw
import Derived.Test.YtcieefggijjekaySGoodB
import Derived.Test.YtcieefggijjekayIBkt
namespace Go.Proofs.Ytcieefggijjekay
open Go.RowKit

theorem FnExactGoodBucket_walk (x0 : BkEl) (w : World) :
    Calls Try.prog 7 #[(.agg #[.int .i64 x0.1, .int .i64 x0.2.1, .int .i64 x0.2.2])] w fun e w' => e = .returned (.bool true) ∧ Below w.heap.size w w' :=
  FnExactGoodBucket_law x0 w (bktB x0) (fun w => sgoodB_eq x0 _ rfl w) (fun w => igoodB_eq x0 _ rfl w)
end Go.Proofs.Ytcieefggijjekay
