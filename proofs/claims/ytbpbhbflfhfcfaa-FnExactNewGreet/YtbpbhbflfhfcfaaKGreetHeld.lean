/-
  laws.heldGreet: all numbers in its rows are told to be numbered. Nothing is written.
-/
import Derived.Test.YtbpbhbflfhfcfaaKGreetMark
import Derived.Test.YtbpbhbflfhfcfaaKHelloHeld
namespace Go.Proofs.Ytbpbhbflfhfcfaa
open Go.RowKit

set_option maxRecDepth 100000 in
set_option maxHeartbeats 8000000 in
theorem heldGreet_any (v : Value) (D : GrD) (k m : Int) (w : World) (hr : GrReads w v (grMk k D)) (hn : grTot D ≤ 1048576) (h0 : 0 ≤ k) (h1 : k ≤ 100000000) (hm : m = k + (grN D : Nat)) :
    Calls Try.prog 29 #[v, .int .i64 k] w fun e w' => e = .returned (.int .i64 m) ∧ Below w.heap.size w w' := by
  obtain ⟨v8, v9, v10, rfl, h8, h9, h10⟩ := hr
  have hN : D.f8.length + D.f9.length + D.f10.length ≤ 1048576 := hn
  obtain ⟨k1, hk1⟩ : ∃ k1 : Int, k1 = (k + (3 * D.f8.length : Nat)) := ⟨_, rfl⟩
  have hq1 : k1 = k + (3 * D.f8.length : Nat) := by omega
  have HQ1 := hid hq1
  have hb1 : 0 ≤ k1 ∧ k1 ≤ 200000000 := by omega
  have hd1 : decide (k1 < 0) = false := by rw [decide_eq_false_iff_not]; omega
  obtain ⟨k2, hk2⟩ : ∃ k2 : Int, k2 = (k + (3 * D.f8.length + 3 * D.f9.length : Nat)) := ⟨_, rfl⟩
  have hq2 : k2 = k1 + (3 * D.f9.length : Nat) := by omega
  have HQ2 := hid hq2
  have hb2 : 0 ≤ k2 ∧ k2 ≤ 200000000 := by omega
  have hd2 : decide (k2 < 0) = false := by rw [decide_eq_false_iff_not]; omega
  have hk3 : m = (k + (3 * D.f8.length + 3 * D.f9.length + 3 * D.f10.length : Nat)) := hm
  have hq3 : m = k2 + (3 * D.f10.length : Nat) := by omega
  have HQ3 := hid hq3
  have hb3 : 0 ≤ m ∧ m ≤ 200000000 := by omega
  have hd3 : decide (m < 0) = false := by rw [decide_eq_false_iff_not]; omega
  have H8 : Hid (HeReads w v8 (hemarks k D.f8.length)) := by show HeReads w v8 (hemarks k D.f8.length); exact h8
  have H9 : Hid (HeReads w v9 (hemarks k1 D.f9.length)) := by show HeReads w v9 (hemarks k1 D.f9.length); rw [hk1]; exact h9
  have H10 : Hid (HeReads w v10 (hemarks k2 D.f10.length)) := by show HeReads w v10 (hemarks k2 D.f10.length); rw [hk2]; exact h10
  clear hm hn hk1 hk2 hk3 hq1 hq2 hq3 h8 h9 h10
  show Calls Try.prog 29 #[.agg #[.int .i64 D.f0, .int .i64 D.f1, .int .i64 D.f2, .int .i64 D.f3, .int .i64 D.f4, .int .i64 D.f5, .int .i64 D.f6, .int .i64 D.f7, v8, v9, v10], .int .i64 k] w _
  have PB := hid (boxL_new w [.int .i64 D.f0, .int .i64 D.f1, .int .i64 D.f2, .int .i64 D.f3, .int .i64 D.f4, .int .i64 D.f5, .int .i64 D.f6, .int .i64 D.f7, v8, v9, v10] 50)
  have BW : Hid (Below w.heap.size w (w.alloc (.cells #[.int .i64 D.f0, .int .i64 D.f1, .int .i64 D.f2, .int .i64 D.f3, .int .i64 D.f4, .int .i64 D.f5, .int .i64 D.f6, .int .i64 D.f7, v8, v9, v10] 50))) := (Below.refl _ _).alloc (Nat.le_refl _) _
  have p8 := (PB.out.cell 8 (by simp)).1
  change World.cell? _ _ = some v8 at p8
  have p9 := (PB.out.cell 9 (by simp)).1
  change World.cell? _ _ = some v9 at p9
  have p10 := (PB.out.cell 10 (by simp)).1
  change World.cell? _ _ = some v10 at p10
  go_enter Try.func29, Try.ntmps29
  go_wp2_with fail
  refine (heldHelloS_any _ D.f8.length k k1 _ (H8.out.below BW.out) (by omega) (by omega) (by omega) HQ1.out).mono ?_
  rintro e w' ⟨rfl, hw⟩; obtain rfl := hw.symm
  go_wp2_with fail
  refine (heldHelloS_any _ D.f9.length k1 k2 _ (H9.out.below BW.out) (by omega) (by omega) (by omega) HQ2.out).mono ?_
  rintro e w' ⟨rfl, hw⟩; obtain rfl := hw.symm
  go_wp2_with fail
  refine (heldHelloS_any _ D.f10.length k2 m _ (H10.out.below BW.out) (by omega) (by omega) (by omega) HQ3.out).mono ?_
  rintro e w' ⟨rfl, hw⟩; obtain rfl := hw.symm
  go_wp2
  go_ret
  exact ⟨rfl, BW.out⟩
end Go.Proofs.Ytbpbhbflfhfcfaa
