/-
  spec.l1In: whether a number lies between two. Nothing is written.
  spec.l13Id: whether an id and a length are as said. Nothing is written.
-/
import Derived.Test.YtnkpboobfkjibakInts
import Derived.Test.YtnkpboobfkjibakBlMath
namespace Go.Proofs.Ytnkpboobfkjibak
open Go.RowKit

theorem l1In_eq (n lo hi : Int) (t : Bool) (h : decide (lo ≤ n ∧ n ≤ hi) = t) (w : World) : Calls Try.prog 35 #[.int .i64 n, .int .i64 lo, .int .i64 hi] w fun e w' => e = .returned (.bool t) ∧ w' = w := by
  by_cases h1 : lo ≤ n
  · by_cases h2 : n ≤ hi
    · have hv : Hid (t = true) := by show _ = _; rw [← h]; simp [h1, h2]
      clear h
      go_enter Try.func35, Try.ntmps35
      go_wp2
      go_ret
      exact ⟨by rw [hv.out]; rfl, rfl⟩
    · have hv : Hid (t = false) := by show _ = _; rw [← h]; simp [h2]
      clear h
      go_enter Try.func35, Try.ntmps35
      go_wp2
      go_ret
      exact ⟨by rw [hv.out]; rfl, rfl⟩
  · have hv : Hid (t = false) := by show _ = _; rw [← h]; simp [h1]
    clear h
    go_enter Try.func35, Try.ntmps35
    go_wp2
    go_ret
    exact ⟨by rw [hv.out]; rfl, rfl⟩
end Go.Proofs.Ytnkpboobfkjibak
namespace Go.Proofs.Ytnkpboobfkjibak
open Go.RowKit

set_option maxHeartbeats 2000000 in
theorem sid13_eq (z l : Int) (t : Bool) (h : idB z l = t) (w : World) :
    Calls Try.prog 39 #[.int .i64 z, .int .i64 l] w fun e w' => e = .returned (.bool t) ∧ w' = w := by
  unfold idB at h
  obtain ⟨b1, e1⟩ : ∃ b, decide (0 ≤ z ∧ z ≤ 1000) = b := ⟨_, rfl⟩
  obtain ⟨b2, e2⟩ : ∃ b, decide (1 ≤ l ∧ l ≤ 40) = b := ⟨_, rfl⟩
  rw [e1, e2] at h
  have HT := hid h
  have E1 := hid e1
  have E2 := hid e2
  clear h e1 e2
  go_enter Try.func39, Try.ntmps39
  go_wp2_with fail
  refine (l1In_eq z 0 1000 b1 E1.out _).mono ?_
  rintro e w' ⟨rfl, hw⟩; obtain rfl := hw.symm
  cases b1
  · have HV : Hid (t = false) := HT.out.symm
    go_wp2
    go_ret
    exact ⟨by rw [HV.out]; rfl, rfl⟩
  go_wp2_with fail
  refine (l1In_eq l 1 40 b2 E2.out _).mono ?_
  rintro e w' ⟨rfl, hw⟩; obtain rfl := hw.symm
  have HV : Hid (b2 = t) := HT.out
  go_wp2
  go_ret
  exact ⟨by rw [← HV.out]; rfl, rfl⟩
end Go.Proofs.Ytnkpboobfkjibak
