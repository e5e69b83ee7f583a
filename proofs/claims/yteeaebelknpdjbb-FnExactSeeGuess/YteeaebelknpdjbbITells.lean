/-
  impl's method tellsTime of what was seen. Nothing old is written.
-/
import Derived.Test.YteeaebelknpdjbbGuForm
namespace Go.Proofs.Yteeaebelknpdjbb
open Go.RowKit

theorem itells_eq (x : SnEl) (r : Bool) (h : (!x.2.2 && !x.2.1) = r) (w : World) : Calls Try.prog 37 #[snV x] w fun e w' => e = .returned (.bool r) ∧ Below w.heap.size w w' := by
  obtain ⟨t, tw, lo⟩ := x
  have HT : Hid ((!lo && !tw) = r) := h
  clear h
  show Calls Try.prog 37 #[.agg #[.int .i64 t, .bool tw, .bool lo]] w _
  cases lo <;> cases tw <;>
  · go_enter Try.func37, Try.ntmps37
    go_wp2
    go_ret
    exact ⟨by rw [← HT.out]; rfl, by go_grown⟩
end Go.Proofs.Yteeaebelknpdjbb
