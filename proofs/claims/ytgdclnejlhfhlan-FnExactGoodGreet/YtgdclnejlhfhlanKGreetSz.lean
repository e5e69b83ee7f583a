/-
  laws.szGreet: what is left of a bound behind all its lengths.
-/
import Derived.Test.YtgdclnejlhfhlanKGreetArg
import Derived.Test.YtgdclnejlhfhlanKHelloSzV
namespace Go.Proofs.Ytgdclnejlhfhlan
open Go.RowKit

set_option maxRecDepth 100000 in
set_option maxHeartbeats 8000000 in
theorem szGreet_any (v : Value) (D : GrD) (w : World) (h : GrArg w v D) (l : Int) (hl0 : 0 ≤ l) (hl1 : l ≤ 1048576) :
    Calls Try.prog 9 #[v, .int .i64 l] w fun e w' => ∃ r : Int, e = .returned (.int .i64 r) ∧ ((r = -1 ∨ r = l - (grTot D : Nat)) ∧ (0 ≤ r → (grTot D : Nat) ≤ l) ∧ r ≤ l) ∧ Below w.heap.size w w' := by
  obtain ⟨v8, v9, v10, rfl, h8, h9, h10⟩ := h
  have H8 := hid h8
  have H9 := hid h9
  have H10 := hid h10
  have HT : Hid (grTot D = D.f8.length + D.f9.length + D.f10.length) := rfl
  clear h8 h9 h10
  have PB := hid (boxL_new w [.int .i64 D.f0, .int .i64 D.f1, .int .i64 D.f2, .int .i64 D.f3, .int .i64 D.f4, .int .i64 D.f5, .int .i64 D.f6, .int .i64 D.f7, v8, v9, v10] 24)
  have BW : Hid (Below w.heap.size w (w.alloc (.cells #[.int .i64 D.f0, .int .i64 D.f1, .int .i64 D.f2, .int .i64 D.f3, .int .i64 D.f4, .int .i64 D.f5, .int .i64 D.f6, .int .i64 D.f7, v8, v9, v10] 24))) := (Below.refl _ _).alloc (Nat.le_refl _) _
  have p8 := (PB.out.cell 8 (by simp)).1
  change World.cell? _ _ = some v8 at p8
  have p9 := (PB.out.cell 9 (by simp)).1
  change World.cell? _ _ = some v9 at p9
  have p10 := (PB.out.cell 10 (by simp)).1
  change World.cell? _ _ = some v10 at p10
  go_enter Try.func9, Try.ntmps9
  go_wp2_with fail
  refine (szHelloS_any _ D.f8 _ (H8.out.below BW.out) l (by omega) (by omega)).mono ?_
  rintro e w' ⟨l1, rfl, hl1, hw⟩; obtain rfl := hw.symm
  by_cases hc1 : l1 < 0
  · have hd1 : decide (l1 < 0) = true := by rw [decide_eq_true_eq]; exact hc1
    have HE : Hid (l1 = -1) := by show _ = _; omega
    go_wp2
    go_ret
    exact ⟨_, rfl, ⟨.inl rfl, fun h => absurd h (by decide), by omega⟩, BW.out⟩
  have hd1 : decide (l1 < 0) = false := by rw [decide_eq_false_iff_not]; exact hc1
  go_wp2_with fail
  refine (szHelloS_any _ D.f9 _ (H9.out.below BW.out) l1 (by omega) (by omega)).mono ?_
  rintro e w' ⟨l2, rfl, hl2, hw⟩; obtain rfl := hw.symm
  by_cases hc2 : l2 < 0
  · have hd2 : decide (l2 < 0) = true := by rw [decide_eq_true_eq]; exact hc2
    have HE : Hid (l2 = -1) := by show _ = _; omega
    go_wp2
    go_ret
    exact ⟨_, rfl, ⟨.inl rfl, fun h => absurd h (by decide), by omega⟩, BW.out⟩
  have hd2 : decide (l2 < 0) = false := by rw [decide_eq_false_iff_not]; exact hc2
  go_wp2_with fail
  refine (szHelloS_any _ D.f10 _ (H10.out.below BW.out) l2 (by omega) (by omega)).mono ?_
  rintro e w' ⟨l3, rfl, hl3, hw⟩; obtain rfl := hw.symm
  by_cases hc3 : l3 < 0
  · have hd3 : decide (l3 < 0) = true := by rw [decide_eq_true_eq]; exact hc3
    have HE : Hid (l3 = -1) := by show _ = _; omega
    go_wp2
    go_ret
    exact ⟨_, rfl, ⟨.inl rfl, fun h => absurd h (by decide), by omega⟩, BW.out⟩
  have hd3 : decide (l3 < 0) = false := by rw [decide_eq_false_iff_not]; exact hc3
  go_wp2
  go_ret
  have ht := HT.out
  refine ⟨_, rfl, ⟨.inr ?_, fun _ => ?_, ?_⟩, BW.out⟩ <;> omega
end Go.Proofs.Ytgdclnejlhfhlan
