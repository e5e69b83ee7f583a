/-
  laws.toSlipS answers with new ones that read as its argument, laws.eqSlipS with true for two slices that read alike; nothing old is written.
-/
import Derived.Test.YtdlkilacnnjglaaKSlipRows
import Derived.Deep.RegionWith
namespace Go.Proofs.Ytdlkilacnnjglaa
open Go.RowKit

theorem toSlip_any (p q r : Int) (w : World) : Calls Try.prog 80 #[(.agg #[.int .i64 p, .int .i64 q, .int .i64 r])] w fun e w' => e = .returned (.agg #[.int .i64 p, .int .i64 q, .int .i64 r]) ∧ Below w.heap.size w w' := by
  go_enter Try.func80, Try.ntmps80
  go_wp2
  go_returns
  refine ⟨rfl, ?_⟩
  go_grown
theorem eqSlip_same (p q r : Int) (w : World) : Calls Try.prog 78 #[(.agg #[.int .i64 p, .int .i64 q, .int .i64 r]), (.agg #[.int .i64 p, .int .i64 q, .int .i64 r])] w fun e w' => e = .returned (.bool true) ∧ Below w.heap.size w w' := by
  go_enter Try.func78, Try.ntmps78
  go_wp2
  go_ret
  refine ⟨rfl, ?_⟩
  go_grown
end Go.Proofs.Ytdlkilacnnjglaa
