/-
  laws.toBucket, laws.eqBucket: a bucket as it is. Nothing old is written.
-/
import Derived.Test.YtcieefggijjekayBkForm
import Derived.Deep.RegionWith
namespace Go.Proofs.Ytcieefggijjekay
open Go.RowKit

theorem toBucket_any (p q r : Int) (w : World) : Calls Try.prog 22 #[(.agg #[.int .i64 p, .int .i64 q, .int .i64 r])] w fun e w' => e = .returned (.agg #[.int .i64 p, .int .i64 q, .int .i64 r]) ∧ Below w.heap.size w w' := by
  go_enter Try.func22, Try.ntmps22
  go_wp2
  go_returns
  refine ⟨rfl, ?_⟩
  go_grown
theorem eqBucket_same (p q r : Int) (w : World) : Calls Try.prog 20 #[(.agg #[.int .i64 p, .int .i64 q, .int .i64 r]), (.agg #[.int .i64 p, .int .i64 q, .int .i64 r])] w fun e w' => e = .returned (.bool true) ∧ Below w.heap.size w w' := by
  go_enter Try.func20, Try.ntmps20
  go_wp2
  go_ret
  refine ⟨rfl, ?_⟩
  go_grown
end Go.Proofs.Ytcieefggijjekay
