/-
  impl's method tellsTime of what was seen. Nothing old is written.
-/
import Derived.Test.YteeaebelknpdjacGuForm
namespace Go.Proofs.Yteeaebelknpdjac
open Go.RowKit

theorem itells_eq (x : SnEl) (r : Bool) (h : (!x.2.2 && !x.2.1) = r) (w : World) : Calls Try.prog 118 #[snV x] w fun e w' => e = .returned (.bool r) ∧ Below w.heap.size w w' := by
  obtain ⟨t, tw, lo⟩ := x
  have HT : Hid ((!lo && !tw) = r) := h
  clear h
  show Calls Try.prog 118 #[.agg #[.int .i64 t, .bool tw, .bool lo]] w _
  cases lo <;> cases tw <;>
  · go_enter Try.func118, Try.ntmps118
    go_wp2
    go_ret
    exact ⟨by rw [← HT.out]; rfl, by go_grown⟩
end Go.Proofs.Yteeaebelknpdjac
