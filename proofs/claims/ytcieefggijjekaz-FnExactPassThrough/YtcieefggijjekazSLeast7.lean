/-
  spec.l1Least: the lesser of two. Nothing is written.
-/
import Derived.Test.YtcieefggijjekazFlowFns
namespace Go.Proofs.Ytcieefggijjekaz
open Go.RowKit

theorem least7_any (x y : Int) (w : World) : Calls Try.prog 31 #[.int .i64 x, .int .i64 y] w fun e w' => e = .returned (.int .i64 (lst7 x y)) ∧ w' = w := by
  by_cases h : x < y
  · have hr : Hid (lst7 x y = x) := by show _ = _; unfold lst7; rw [if_pos h]
    go_enter Try.func31, Try.ntmps31
    go_wp2
    go_ret
    exact ⟨by rw [hr.out]; rfl, rfl⟩
  · have hr : Hid (lst7 x y = y) := by show _ = _; unfold lst7; rw [if_neg h]
    go_enter Try.func31, Try.ntmps31
    go_wp2
    go_ret
    exact ⟨by rw [hr.out]; rfl, rfl⟩
end Go.Proofs.Ytcieefggijjekaz
