/-
  spec.l15Of, spec.l15Letter: whether a number was given, whether a letter is good.
-/
import Derived.Test.YtgdclnejlhfhlanSIn
import Derived.Test.YtgdclnejlhfhlanGrFns
import Derived.Test.YtgdclnejlhfhlanBoxL11
namespace Go.Proofs.Ytgdclnejlhfhlan
open Go.RowKit

theorem l15Of_eq (n last : Int) (z t : Bool) (h : gv0 n last z = t) (w : World) : Calls Try.prog 39 #[.int .i64 n, .int .i64 last, .bool z] w fun e w' => e = .returned (.bool t) ∧ w' = w := by
  cases z
  · have HE : Hid (decide (1 ≤ n ∧ n ≤ last) = t) := h
    clear h
    go_enter Try.func39, Try.ntmps39
    go_wp2_with fail
    refine (l1In_eq n 1 last t HE.out _).mono ?_
    rintro e w' ⟨rfl, hw⟩; obtain rfl := hw.symm
    go_wp2
    go_ret
    exact ⟨rfl, rfl⟩
  · have HE : Hid (decide (n = 0) = t) := h
    clear h
    go_enter Try.func39, Try.ntmps39
    go_wp2
    go_ret
    exact ⟨by rw [← HE.out]; rfl, rfl⟩
set_option maxRecDepth 100000 in
set_option maxHeartbeats 8000000 in
theorem l15Letter_eq (X Y : Int) (v0 v1 v2 v3 v4 v5 v8 v9 v10 : Value) (x : HeEl) (t : Bool) (h : letB X Y x = t) (w : World) :
    Calls Try.prog 40 #[.agg #[v0, v1, v2, v3, v4, v5, .int .i64 X, .int .i64 Y, v8, v9, v10], .agg #[.int .i64 x.1, .int .i64 x.2.1, .int .i64 x.2.2]] w fun e w' => e = .returned (.bool t) ∧ Below w.heap.size w w' := by
  obtain ⟨k, a, b⟩ := x
  unfold letB at h
  obtain ⟨b1, e1⟩ : ∃ b, decide (1 ≤ k ∧ k ≤ 3) = b := ⟨_, rfl⟩
  obtain ⟨b2, e2⟩ : ∃ b, gv0 a X false = b := ⟨_, rfl⟩
  obtain ⟨z, hz⟩ : ∃ z, decide (k = 1) = z := ⟨_, rfl⟩
  obtain ⟨b3, e3⟩ : ∃ c, gv0 b Y z = c := ⟨_, rfl⟩
  simp only at h
  rw [e1, e2, hz, e3] at h
  have HT := hid h
  have E1 := hid e1
  have E2 := hid e2
  have E3 := hid e3
  have EZ : Hid ((k == 1) = z) := by show _ = _; rw [← hz]; rfl
  clear h e1 e2 e3 hz
  go_enter Try.func40, Try.ntmps40
  go_wp2_with fail
  refine (l1In_eq k 1 3 b1 E1.out _).mono ?_
  rintro e w' ⟨rfl, hw⟩; obtain rfl := hw.symm
  cases b1
  · have HV : Hid (t = false) := HT.out.symm
    go_wp2
    go_ret
    exact ⟨by rw [HV.out]; rfl, by go_grown⟩
  go_wp2_with fail
  refine (l15Of_eq a X false b2 E2.out _).mono ?_
  rintro e w' ⟨rfl, hw⟩; obtain rfl := hw.symm
  cases b2
  · have HV : Hid (t = false) := HT.out.symm
    go_wp2
    go_ret
    exact ⟨by rw [HV.out]; rfl, by go_grown⟩
  go_wp2_with fail
  rw [EZ.out]
  refine (l15Of_eq b Y z b3 E3.out _).mono ?_
  rintro e w' ⟨rfl, hw⟩; obtain rfl := hw.symm
  go_wp2
  go_ret
  exact ⟨by rw [← HT.out]; rfl, by go_grown⟩
end Go.Proofs.Ytgdclnejlhfhlan
