/-
  laws.toCaseS answers with new ones that read as its argument, laws.eqCaseS with true for two slices that read alike; nothing old is written.
-/
import Derived.Test.YtdlkilacnnjglaaKCaseRows
import Derived.Deep.RegionWith
namespace Go.Proofs.Ytdlkilacnnjglaa
open Go.RowKit

theorem toCase_any (p : Int) (q : Bool) (r : Int) (s : Int) (w : World) : Calls Try.prog 79 #[(.agg #[.int .i64 p, .bool q, .int .i64 r, .int .i64 s])] w fun e w' => e = .returned (.agg #[.int .i64 p, .bool q, .int .i64 r, .int .i64 s]) ∧ Below w.heap.size w w' := by
  go_enter Try.func79, Try.ntmps79
  go_wp2
  go_returns
  refine ⟨rfl, ?_⟩
  go_grown
theorem eqCase_same (p : Int) (q : Bool) (r : Int) (s : Int) (w : World) : Calls Try.prog 77 #[(.agg #[.int .i64 p, .bool q, .int .i64 r, .int .i64 s]), (.agg #[.int .i64 p, .bool q, .int .i64 r, .int .i64 s])] w fun e w' => e = .returned (.bool true) ∧ Below w.heap.size w w' := by
  go_enter Try.func77, Try.ntmps77
  go_wp2
  go_ret
  refine ⟨rfl, ?_⟩
  go_grown
end Go.Proofs.Ytdlkilacnnjglaa
