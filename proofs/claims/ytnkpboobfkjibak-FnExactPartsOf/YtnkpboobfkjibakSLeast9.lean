/-
  spec.l1Least: the lesser of two. Nothing is written.
-/
import Derived.Test.YtnkpboobfkjibakInts
namespace Go.Proofs.Ytnkpboobfkjibak
open Go.RowKit

theorem sleast_eq (x y r : Int) (hr : min x y = r) (w : World) : Calls Try.prog 40 #[.int .i64 x, .int .i64 y] w fun e w' => e = .returned (.int .i64 r) ∧ w' = w := by
  by_cases h : x < y
  · have hv : Hid (r = x) := by show _ = _; omega
    clear hr
    go_enter Try.func40, Try.ntmps40
    go_wp2
    go_ret
    exact ⟨by rw [hv.out]; rfl, rfl⟩
  · have hv : Hid (r = y) := by show _ = _; omega
    clear hr
    go_enter Try.func40, Try.ntmps40
    go_wp2
    go_ret
    exact ⟨by rw [hv.out]; rfl, rfl⟩
end Go.Proofs.Ytnkpboobfkjibak
