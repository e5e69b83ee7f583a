/-
  spec.l12Deep: whether so many bytes can be written into so many rows. Nothing is written.
-/
import Derived.Test.YthmkeinhjlmgmajSIn
import Derived.Test.YthmkeinhjlmgmajPcMath
namespace Go.Proofs.Ythmkeinhjlmgmaj
open Go.RowKit

theorem deep_mod (many deep : Int) (h2 : 0 ≤ many) : many.tmod deep = many % deep := by
  rw [Int.tmod_eq_emod_of_nonneg h2]
set_option maxHeartbeats 2000000 in
theorem sdeep_eq (many deep : Int) (t : Bool) (h : deepB many deep = t) (w : World) : Calls Try.prog 33 #[.int .i64 many, .int .i64 deep] w fun e w' => e = .returned (.bool t) ∧ w' = w := by
  have HT : Hid ((decide (1 ≤ deep ∧ deep ≤ 12) && (decide (0 ≤ many ∧ many ≤ 120) && decide (many % deep = 0))) = t) := h
  clear h
  obtain ⟨b1, h1⟩ : ∃ b, decide (1 ≤ deep ∧ deep ≤ 12) = b := ⟨_, rfl⟩
  obtain ⟨b2, h2⟩ : ∃ b, decide (0 ≤ many ∧ many ≤ 120) = b := ⟨_, rfl⟩
  have H1 := hid h1
  have H2 := hid h2
  rw [h1, h2] at HT
  cases b1
  · clear h1 h2
    go_enter Try.func33, Try.ntmps33
    go_wp2_with fail
    refine (l1In_eq deep 1 12 false H1.out _).mono ?_
    rintro e w' ⟨rfl, hw⟩; obtain rfl := hw.symm
    go_wp2
    go_ret
    exact ⟨by rw [← HT.out]; rfl, rfl⟩
  cases b2
  · clear h1 h2
    go_enter Try.func33, Try.ntmps33
    go_wp2_with fail
    refine (l1In_eq deep 1 12 true H1.out _).mono ?_
    rintro e w' ⟨rfl, hw⟩; obtain rfl := hw.symm
    go_wp2_with fail
    refine (l1In_eq many 0 120 false H2.out _).mono ?_
    rintro e w' ⟨rfl, hw⟩; obtain rfl := hw.symm
    go_wp2
    go_ret
    exact ⟨by rw [← HT.out]; rfl, rfl⟩
  have h1' : 1 ≤ deep ∧ deep ≤ 12 := of_decide_eq_true h1
  have h2' : 0 ≤ many ∧ many ≤ 120 := of_decide_eq_true h2
  clear h1 h2
  obtain ⟨d, rfl⟩ := Int.eq_ofNat_of_zero_le (show (0 : Int) ≤ deep by omega)
  obtain ⟨n, rfl⟩ := Int.eq_ofNat_of_zero_le h2'.1
  obtain ⟨a1, a2⟩ := h1'
  obtain ⟨a3, a4⟩ := h2'
  have hne : ¬ (d : Int) = 0 := by omega
  have hne' : ¬ d = 0 := by omega
  obtain ⟨m, hm⟩ : ∃ m : Nat, n % d = m := ⟨_, rfl⟩
  have hm1 : ((n : Int) % (d : Int)) = (m : Int) := by rw [← hm]; rfl
  have hm2 : (n : Int).tmod (d : Int) = (m : Int) := by rw [deep_mod _ _ a3, hm1]
  have HV : Hid (decide (m = 0) = t) := by
    show _ = _
    rw [← HT.out, hm1]
    simp
  clear HT hm
  by_cases h0 : m = 0
  · subst h0
    go_enter Try.func33, Try.ntmps33
    go_wp2_with fail
    refine (l1In_eq d 1 12 true H1.out _).mono ?_
    rintro e w' ⟨rfl, hw⟩; obtain rfl := hw.symm
    go_wp2_with fail
    refine (l1In_eq n 0 120 true H2.out _).mono ?_
    rintro e w' ⟨rfl, hw⟩; obtain rfl := hw.symm
    go_wp2
    go_ret
    exact ⟨by rw [← HV.out]; rfl, rfl⟩
  · have he1 : (((m : Nat) : Int) == 0) = false := by simpa using h0
    go_enter Try.func33, Try.ntmps33
    go_wp2_with fail
    refine (l1In_eq d 1 12 true H1.out _).mono ?_
    rintro e w' ⟨rfl, hw⟩; obtain rfl := hw.symm
    go_wp2_with fail
    refine (l1In_eq n 0 120 true H2.out _).mono ?_
    rintro e w' ⟨rfl, hw⟩; obtain rfl := hw.symm
    go_wp2
    go_ret
    exact ⟨by rw [← HV.out]; simp [h0], rfl⟩
end Go.Proofs.Ythmkeinhjlmgmaj
