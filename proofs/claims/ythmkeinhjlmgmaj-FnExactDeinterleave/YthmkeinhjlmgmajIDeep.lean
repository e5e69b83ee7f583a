/-
  impl.goodRows: whether so many bytes can be written into so many rows. Nothing is written.
-/
import Derived.Test.YthmkeinhjlmgmajPcMath
namespace Go.Proofs.Ythmkeinhjlmgmaj
open Go.RowKit

set_option maxHeartbeats 2000000 in
theorem ideep_eq (many deep : Int) (t : Bool) (h : deepB many deep = t) (w : World) : Calls Try.prog 34 #[.int .i64 many, .int .i64 deep] w fun e w' => e = .returned (.bool t) ∧ w' = w := by
  have HT : Hid (deepB many deep = t) := h
  clear h
  by_cases h1 : 1 ≤ deep
  rotate_left
  · have HV : Hid (t = false) := by show _ = _; rw [← HT.out]; simp [deepB, h1]
    clear HT
    have d1 : decide (1 ≤ deep) = false := by simpa using h1
    have d2 : decide (deep ≥ 1) = false := d1
    go_enter Try.func34, Try.ntmps34
    go_wp2
    go_ret
    exact ⟨by rw [HV.out]; rfl, rfl⟩
  by_cases h2 : deep ≤ 12
  rotate_left
  · have HV : Hid (t = false) := by show _ = _; rw [← HT.out]; simp [deepB, h2]
    clear HT
    have d1 : decide (1 ≤ deep) = true := by simpa using h1
    have d2 : decide (deep ≤ 12) = false := by simpa using h2
    go_enter Try.func34, Try.ntmps34
    go_wp2
    go_ret
    exact ⟨by rw [HV.out]; rfl, rfl⟩
  by_cases h3 : 0 ≤ many
  rotate_left
  · have HV : Hid (t = false) := by show _ = _; rw [← HT.out]; simp [deepB, h3]
    clear HT
    have d1 : decide (1 ≤ deep) = true := by simpa using h1
    have d2 : decide (deep ≤ 12) = true := by simpa using h2
    have d3 : decide (0 ≤ many) = false := by simpa using h3
    go_enter Try.func34, Try.ntmps34
    go_wp2
    go_ret
    exact ⟨by rw [HV.out]; rfl, rfl⟩
  by_cases h4 : many ≤ 120
  rotate_left
  · have HV : Hid (t = false) := by show _ = _; rw [← HT.out]; simp [deepB, h4]
    clear HT
    have d1 : decide (1 ≤ deep) = true := by simpa using h1
    have d2 : decide (deep ≤ 12) = true := by simpa using h2
    have d3 : decide (0 ≤ many) = true := by simpa using h3
    have d4 : decide (many ≤ 120) = false := by simpa using h4
    go_enter Try.func34, Try.ntmps34
    go_wp2
    go_ret
    exact ⟨by rw [HV.out]; rfl, rfl⟩
  obtain ⟨d, rfl⟩ := Int.eq_ofNat_of_zero_le (show (0 : Int) ≤ deep by omega)
  obtain ⟨n, rfl⟩ := Int.eq_ofNat_of_zero_le h3
  have hne : ¬ (d : Int) = 0 := by omega
  have hne' : ¬ d = 0 := by omega
  obtain ⟨m, hm⟩ : ∃ m : Nat, n % d = m := ⟨_, rfl⟩
  have hm1 : ((n : Int) % (d : Int)) = (m : Int) := by rw [← hm]; rfl
  have hm2 : (n : Int).tmod (d : Int) = (m : Int) := by rw [Int.tmod_eq_emod_of_nonneg h3, hm1]
  have HV : Hid (decide (m = 0) = t) := by
    show _ = _
    rw [← HT.out]
    unfold deepB
    rw [hm1]
    simp [h1, h2, h3, h4]
  clear HT hm
  have d1 : decide ((1 : Int) ≤ d) = true := by simpa using h1
  by_cases h0 : m = 0
  · subst h0
    go_enter Try.func34, Try.ntmps34
    go_wp2
    go_ret
    exact ⟨by rw [← HV.out]; rfl, rfl⟩
  · have he1 : (((m : Nat) : Int) == 0) = false := by simpa using h0
    go_enter Try.func34, Try.ntmps34
    go_wp2
    go_ret
    exact ⟨by rw [← HV.out]; simp [h0], rfl⟩
end Go.Proofs.Ythmkeinhjlmgmaj
