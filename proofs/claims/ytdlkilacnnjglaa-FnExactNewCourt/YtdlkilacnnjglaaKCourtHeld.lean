/-
  laws.heldCourt: all numbers in its rows are told to be numbered. Nothing is written.
-/
import Derived.Test.YtdlkilacnnjglaaKCourtMark
namespace Go.Proofs.Ytdlkilacnnjglaa
open Go.RowKit

set_option maxRecDepth 100000 in
set_option maxHeartbeats 8000000 in
theorem heldCourt_any (v : Value) (D : CoD) (k m : Int) (w : World) (hr : CoReads w v (coMk k D)) (hn : coTot D ≤ 1048576) (h0 : 0 ≤ k) (h1 : k ≤ 100000000) (hm : m = k + (coN D : Nat)) :
    Calls Try.prog 16 #[v, .int .i64 k] w fun e w' => e = .returned (.int .i64 m) ∧ Below w.heap.size w w' := by
  obtain ⟨v1, v2, rfl, h1, h2⟩ := hr
  have hN : D.f1.length + D.f2.length ≤ 1048576 := hn
  obtain ⟨k1, hk1⟩ : ∃ k1 : Int, k1 = (k + (4 * D.f1.length : Nat)) := ⟨_, rfl⟩
  have hq1 : k1 = k + (4 * D.f1.length : Nat) := by omega
  have HQ1 := hid hq1
  have hb1 : 0 ≤ k1 ∧ k1 ≤ 200000000 := by omega
  have hd1 : decide (k1 < 0) = false := by rw [decide_eq_false_iff_not]; omega
  have hk2 : m = (k + (4 * D.f1.length + 3 * D.f2.length : Nat)) := hm
  have hq2 : m = k1 + (3 * D.f2.length : Nat) := by omega
  have HQ2 := hid hq2
  have hb2 : 0 ≤ m ∧ m ≤ 200000000 := by omega
  have hd2 : decide (m < 0) = false := by rw [decide_eq_false_iff_not]; omega
  have H1 : Hid (CaReads w v1 (camarks k D.f1.length)) := by show CaReads w v1 (camarks k D.f1.length); exact h1
  have H2 : Hid (SlReads w v2 (slmarks k1 D.f2.length)) := by show SlReads w v2 (slmarks k1 D.f2.length); rw [hk1]; exact h2
  clear hm hn hk1 hk2 hq1 hq2 h1 h2
  show Calls Try.prog 16 #[.agg #[.int .i64 D.f0, v1, v2], .int .i64 k] w _
  have PB := hid (boxL_new w [.int .i64 D.f0, v1, v2] 26)
  have BW : Hid (Below w.heap.size w (w.alloc (.cells #[.int .i64 D.f0, v1, v2] 26))) := (Below.refl _ _).alloc (Nat.le_refl _) _
  have p1 := (PB.out.cell 1 (by simp)).1
  change World.cell? _ _ = some v1 at p1
  have p2 := (PB.out.cell 2 (by simp)).1
  change World.cell? _ _ = some v2 at p2
  go_enter Try.func16, Try.ntmps16
  go_wp2_with fail
  refine (heldCaseS_any _ D.f1.length k k1 _ (H1.out.below BW.out) (by omega) (by omega) (by omega) HQ1.out).mono ?_
  rintro e w' ⟨rfl, hw⟩; obtain rfl := hw.symm
  go_wp2_with fail
  refine (heldSlipS_any _ D.f2.length k1 m _ (H2.out.below BW.out) (by omega) (by omega) (by omega) HQ2.out).mono ?_
  rintro e w' ⟨rfl, hw⟩; obtain rfl := hw.symm
  go_wp2
  go_ret
  exact ⟨rfl, BW.out⟩
end Go.Proofs.Ytdlkilacnnjglaa
