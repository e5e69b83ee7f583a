/-
  spec.l1In: whether a number lies between two. Nothing is written.
  spec.l1Bit: one for true, else nought.
-/
import Derived.Test.YtpkngcamaahhdabInts
namespace Go.Proofs.Ytpkngcamaahhdab
open Go.RowKit

theorem l1In_eq (n lo hi : Int) (t : Bool) (h : decide (lo ≤ n ∧ n ≤ hi) = t) (w : World) : Calls Try.prog 44 #[.int .i64 n, .int .i64 lo, .int .i64 hi] w fun e w' => e = .returned (.bool t) ∧ w' = w := by
  by_cases h1 : lo ≤ n
  · by_cases h2 : n ≤ hi
    · have hv : Hid (t = true) := by show _ = _; rw [← h]; simp [h1, h2]
      clear h
      go_enter Try.func44, Try.ntmps44
      go_wp2
      go_ret
      exact ⟨by rw [hv.out]; rfl, rfl⟩
    · have hv : Hid (t = false) := by show _ = _; rw [← h]; simp [h2]
      clear h
      go_enter Try.func44, Try.ntmps44
      go_wp2
      go_ret
      exact ⟨by rw [hv.out]; rfl, rfl⟩
  · have hv : Hid (t = false) := by show _ = _; rw [← h]; simp [h1]
    clear h
    go_enter Try.func44, Try.ntmps44
    go_wp2
    go_ret
    exact ⟨by rw [hv.out]; rfl, rfl⟩
end Go.Proofs.Ytpkngcamaahhdab
namespace Go.Proofs.Ytpkngcamaahhdab
open Go.RowKit

theorem l1Bit_eq (b : Bool) (r : Int) (h : (if b = true then (1 : Int) else 0) = r) (w : World) : Calls Try.prog 78 #[.bool b] w fun e w' => e = .returned (.int .i64 r) ∧ w' = w := by
  cases b
  · have hr : Hid (r = 0) := h.symm
    clear h
    go_enter Try.func78, Try.ntmps78
    go_wp2
    go_ret
    exact ⟨by rw [hr.out]; rfl, rfl⟩
  · have hr : Hid (r = 1) := h.symm
    clear h
    go_enter Try.func78, Try.ntmps78
    go_wp2
    go_ret
    exact ⟨by rw [hr.out]; rfl, rfl⟩
end Go.Proofs.Ytpkngcamaahhdab
