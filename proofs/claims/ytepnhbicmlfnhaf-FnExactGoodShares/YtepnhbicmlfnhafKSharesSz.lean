/-
  laws.szShares: what is left of a bound behind all its lengths.
-/
import Derived.Test.YtepnhbicmlfnhafKSharesArg
import Derived.Test.YtepnhbicmlfnhafKSzI
namespace Go.Proofs.Ytepnhbicmlfnhaf
open Go.RowKit

set_option maxRecDepth 100000 in
set_option maxHeartbeats 8000000 in
theorem szShares_any (v : Value) (D : ShD) (w : World) (h : ShArg w v D) (l : Int) (hl0 : 0 ≤ l) (hl1 : l ≤ 1048576) :
    Calls Try.prog 4 #[v, .int .i64 l] w fun e w' => ∃ r : Int, e = .returned (.int .i64 r) ∧ ((r = -1 ∨ r = l - (shTot D : Nat)) ∧ (0 ≤ r → (shTot D : Nat) ≤ l) ∧ r ≤ l) ∧ Below w.heap.size w w' := by
  obtain ⟨v0, rfl, h0⟩ := h
  have H0 := hid h0
  have HT : Hid (shTot D = D.f0.length) := rfl
  clear h0
  have PB := hid (boxL_new w [v0, .int .i64 D.f1] 24)
  have BW : Hid (Below w.heap.size w (w.alloc (.cells #[v0, .int .i64 D.f1] 24))) := (Below.refl _ _).alloc (Nat.le_refl _) _
  have p0 := (PB.out.cell 0 (by simp)).1
  change World.cell? _ _ = some v0 at p0
  go_enter Try.func4, Try.ntmps4
  go_wp2_with fail
  refine (szIntS_any _ D.f0 _ (H0.out.below BW.out) l (by omega) (by omega)).mono ?_
  rintro e w' ⟨l1, rfl, hl1, hw⟩; obtain rfl := hw.symm
  by_cases hc1 : l1 < 0
  · have hd1 : decide (l1 < 0) = true := by rw [decide_eq_true_eq]; exact hc1
    have HE : Hid (l1 = -1) := by show _ = _; omega
    go_wp2
    go_ret
    exact ⟨_, rfl, ⟨.inl rfl, fun h => absurd h (by decide), by omega⟩, BW.out⟩
  have hd1 : decide (l1 < 0) = false := by rw [decide_eq_false_iff_not]; exact hc1
  go_wp2
  go_ret
  have ht := HT.out
  refine ⟨_, rfl, ⟨.inr ?_, fun _ => ?_, ?_⟩, BW.out⟩ <;> omega
end Go.Proofs.Ytepnhbicmlfnhaf
