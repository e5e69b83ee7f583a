/-
  spec.l1Bit: one for true, else nought.
-/
import Derived.Test.YtepnhbicmlfnhadInts
namespace Go.Proofs.Ytepnhbicmlfnhad
open Go.RowKit

theorem l1Bit_eq (b : Bool) (r : Int) (h : (if b = true then (1 : Int) else 0) = r) (w : World) : Calls Try.prog 51 #[.bool b] w fun e w' => e = .returned (.int .i64 r) ∧ w' = w := by
  cases b
  · have hr : Hid (r = 0) := h.symm
    clear h
    go_enter Try.func51, Try.ntmps51
    go_wp2
    go_ret
    exact ⟨by rw [hr.out]; rfl, rfl⟩
  · have hr : Hid (r = 1) := h.symm
    clear h
    go_enter Try.func51, Try.ntmps51
    go_wp2
    go_ret
    exact ⟨by rw [hr.out]; rfl, rfl⟩
end Go.Proofs.Ytepnhbicmlfnhad
