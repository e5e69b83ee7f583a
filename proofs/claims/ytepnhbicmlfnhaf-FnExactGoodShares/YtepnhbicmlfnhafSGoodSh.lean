/-
  spec.GoodShares: whether shares are as said. Nothing old is written.
-/
import Derived.Test.YtepnhbicmlfnhafShMath
import Derived.Test.YtepnhbicmlfnhafSAll7
namespace Go.Proofs.Ytepnhbicmlfnhaf
open Go.RowKit

set_option maxRecDepth 100000 in
set_option maxHeartbeats 4000000 in
theorem sgoodS_eq (v : Value) (D : ShD) (t : Bool) (h : goodS D = t) (w : World) (hr : ShReads w v D) :
    Calls Try.prog 5 #[v] w fun e w' => e = .returned (.bool t) ∧ Below w.heap.size w w' := by
  obtain ⟨v0, rfl, r0⟩ := hr
  have R0 := hid r0
  obtain ⟨a0, p0, rfl, l0, _⟩ := r0
  unfold goodS at h
  obtain ⟨z, hz⟩ : ∃ z, z = D.f1 := ⟨_, rfl⟩
  rw [← hz] at h ⊢
  have PB := hid (boxL_new w [.slice a0 D.f0.length p0, .int .i64 z] 27)
  obtain ⟨q0, q1⟩ := PB.out.two
  have BW : Hid (Below w.heap.size w (w.alloc (.cells #[.slice a0 D.f0.length p0, .int .i64 z] 27))) := (Below.refl _ _).alloc (Nat.le_refl _) _
  obtain ⟨b1, e1⟩ : ∃ b, decide (1 ≤ (D.f0.length : Int) ∧ (D.f0.length : Int) ≤ 5) = b := ⟨_, rfl⟩
  obtain ⟨b2, e2⟩ : ∃ b, (D.f0.all fun x => decide (1 ≤ x ∧ x ≤ 10000)) = b := ⟨_, rfl⟩
  obtain ⟨b3, e3⟩ : ∃ b, decide (1 ≤ z ∧ z ≤ 40000) = b := ⟨_, rfl⟩
  rw [e1, e2, e3] at h
  have HT := hid h
  have E1 := hid e1
  have E2 := hid e2
  have E3 := hid e3
  clear h e1 e2 e3 hz
  go_enter Try.func5, Try.ntmps5
  go_wp2_with fail
  refine (l1In_eq (D.f0.length : Int) 1 5 b1 E1.out _).mono ?_
  rintro e w' ⟨rfl, hw⟩; obtain rfl := hw.symm
  cases b1
  · have HV : Hid (t = false) := HT.out.symm
    go_wp2
    go_ret
    exact ⟨by rw [HV.out]; rfl, BW.out⟩
  go_wp2_with fail
  refine (l1All7_eq _ D.f0 1 10000 b2 E2.out _ (R0.out.below BW.out)).mono ?_
  rintro e w' ⟨rfl, hw⟩; obtain rfl := hw.symm
  cases b2
  · have HV : Hid (t = false) := HT.out.symm
    go_wp2
    go_ret
    exact ⟨by rw [HV.out]; rfl, BW.out⟩
  go_wp2_with fail
  refine (l1In_eq z 1 40000 b3 E3.out _).mono ?_
  rintro e w' ⟨rfl, hw⟩; obtain rfl := hw.symm
  have HV : Hid (t = b3) := HT.out.symm
  go_wp2
  go_ret
  exact ⟨by rw [HV.out]; rfl, BW.out⟩
end Go.Proofs.Ytepnhbicmlfnhaf
