/-
  spec.l1Most: the greater of two. Nothing is written.
-/
import Derived.Test.YtflhlinkolbbiaeInts
namespace Go.Proofs.Ytflhlinkolbbiae
open Go.RowKit

theorem smost_eq (x y r : Int) (hr : max x y = r) (w : World) : Calls Try.prog 71 #[.int .i64 x, .int .i64 y] w fun e w' => e = .returned (.int .i64 r) ∧ w' = w := by
  by_cases h : y < x
  · have hv : Hid (r = x) := by show _ = _; omega
    clear hr
    go_enter Try.func71, Try.ntmps71
    go_wp2
    go_ret
    exact ⟨by rw [hv.out]; rfl, rfl⟩
  · have hv : Hid (r = y) := by show _ = _; omega
    clear hr
    go_enter Try.func71, Try.ntmps71
    go_wp2
    go_ret
    exact ⟨by rw [hv.out]; rfl, rfl⟩
end Go.Proofs.Ytflhlinkolbbiae
