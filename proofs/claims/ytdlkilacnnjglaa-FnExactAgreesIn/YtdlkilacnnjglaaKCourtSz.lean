/-
  laws.szCourt: what is left of a bound behind all its lengths.
-/
import Derived.Test.YtdlkilacnnjglaaKCourtArg
import Derived.Test.YtdlkilacnnjglaaKCaseSzV
import Derived.Test.YtdlkilacnnjglaaKSlipSzV
namespace Go.Proofs.Ytdlkilacnnjglaa
open Go.RowKit

set_option maxRecDepth 100000 in
set_option maxHeartbeats 8000000 in
theorem szCourt_any (v : Value) (D : CoD) (w : World) (h : CoArg w v D) (l : Int) (hl0 : 0 ≤ l) (hl1 : l ≤ 1048576) :
    Calls Try.prog 17 #[v, .int .i64 l] w fun e w' => ∃ r : Int, e = .returned (.int .i64 r) ∧ ((r = -1 ∨ r = l - (coTot D : Nat)) ∧ (0 ≤ r → (coTot D : Nat) ≤ l) ∧ r ≤ l) ∧ Below w.heap.size w w' := by
  obtain ⟨v1, v2, rfl, h1, h2⟩ := h
  have H1 := hid h1
  have H2 := hid h2
  have HT : Hid (coTot D = D.f1.length + D.f2.length) := rfl
  clear h1 h2
  have PB := hid (boxL_new w [.int .i64 D.f0, v1, v2] 38)
  have BW : Hid (Below w.heap.size w (w.alloc (.cells #[.int .i64 D.f0, v1, v2] 38))) := (Below.refl _ _).alloc (Nat.le_refl _) _
  have p1 := (PB.out.cell 1 (by simp)).1
  change World.cell? _ _ = some v1 at p1
  have p2 := (PB.out.cell 2 (by simp)).1
  change World.cell? _ _ = some v2 at p2
  go_enter Try.func17, Try.ntmps17
  go_wp2_with fail
  refine (szCaseS_any _ D.f1 _ (H1.out.below BW.out) l (by omega) (by omega)).mono ?_
  rintro e w' ⟨l1, rfl, hl1, hw⟩; obtain rfl := hw.symm
  by_cases hc1 : l1 < 0
  · have hd1 : decide (l1 < 0) = true := by rw [decide_eq_true_eq]; exact hc1
    have HE : Hid (l1 = -1) := by show _ = _; omega
    go_wp2
    go_ret
    exact ⟨_, rfl, ⟨.inl rfl, fun h => absurd h (by decide), by omega⟩, BW.out⟩
  have hd1 : decide (l1 < 0) = false := by rw [decide_eq_false_iff_not]; exact hc1
  go_wp2_with fail
  refine (szSlipS_any _ D.f2 _ (H2.out.below BW.out) l1 (by omega) (by omega)).mono ?_
  rintro e w' ⟨l2, rfl, hl2, hw⟩; obtain rfl := hw.symm
  by_cases hc2 : l2 < 0
  · have hd2 : decide (l2 < 0) = true := by rw [decide_eq_true_eq]; exact hc2
    have HE : Hid (l2 = -1) := by show _ = _; omega
    go_wp2
    go_ret
    exact ⟨_, rfl, ⟨.inl rfl, fun h => absurd h (by decide), by omega⟩, BW.out⟩
  have hd2 : decide (l2 < 0) = false := by rw [decide_eq_false_iff_not]; exact hc2
  go_wp2
  go_ret
  have ht := HT.out
  refine ⟨_, rfl, ⟨.inr ?_, fun _ => ?_, ?_⟩, BW.out⟩ <;> omega
end Go.Proofs.Ytdlkilacnnjglaa
