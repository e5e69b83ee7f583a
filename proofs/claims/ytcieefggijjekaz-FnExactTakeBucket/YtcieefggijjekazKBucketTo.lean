/-
  laws.toBucket, laws.eqBucket: a bucket as it is. Nothing old is written.
-/
import Derived.Test.YtcieefggijjekazBkForm
import Derived.Deep.RegionWith
namespace Go.Proofs.Ytcieefggijjekaz
open Go.RowKit

theorem toBucket_any (p q r : Int) (w : World) : Calls Try.prog 9 #[(.agg #[.int .i64 p, .int .i64 q, .int .i64 r])] w fun e w' => e = .returned (.agg #[.int .i64 p, .int .i64 q, .int .i64 r]) ∧ Below w.heap.size w w' := by
  go_enter Try.func9, Try.ntmps9
  go_wp2
  go_returns
  refine ⟨rfl, ?_⟩
  go_grown
theorem eqBucket_same (p q r : Int) (w : World) : Calls Try.prog 11 #[(.agg #[.int .i64 p, .int .i64 q, .int .i64 r]), (.agg #[.int .i64 p, .int .i64 q, .int .i64 r])] w fun e w' => e = .returned (.bool true) ∧ Below w.heap.size w w' := by
  go_enter Try.func11, Try.ntmps11
  go_wp2
  go_ret
  refine ⟨rfl, ?_⟩
  go_grown
end Go.Proofs.Ytcieefggijjekaz
