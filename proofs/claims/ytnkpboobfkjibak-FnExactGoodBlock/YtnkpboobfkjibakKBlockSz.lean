/-
  laws.szBlock: what is left of a bound behind all its lengths.
-/
import Derived.Test.YtnkpboobfkjibakKBlockArg
import Derived.Test.YtnkpboobfkjibakKSpanV
namespace Go.Proofs.Ytnkpboobfkjibak
open Go.RowKit

set_option maxRecDepth 100000 in
set_option maxHeartbeats 8000000 in
theorem szBlock_any (v : Value) (D : BlD) (w : World) (h : BlArg w v D) (l : Int) (hl0 : 0 ≤ l) (hl1 : l ≤ 1048576) :
    Calls Try.prog 24 #[v, .int .i64 l] w fun e w' => ∃ r : Int, e = .returned (.int .i64 r) ∧ ((r = -1 ∨ r = l - (blTot D : Nat)) ∧ (0 ≤ r → (blTot D : Nat) ≤ l) ∧ r ≤ l) ∧ Below w.heap.size w w' := by
  obtain ⟨v3, rfl, hstr, h3⟩ := h
  have H3 := hid h3
  have HT : Hid (blTot D = D.f2.size + D.f3.length) := rfl
  clear h3
  unfold maxLen at hstr
  have PB := hid (boxL_new w [.int .i64 D.f0, .int .i64 D.f1, .string D.f2, v3] 45)
  have BW : Hid (Below w.heap.size w (w.alloc (.cells #[.int .i64 D.f0, .int .i64 D.f1, .string D.f2, v3] 45))) := (Below.refl _ _).alloc (Nat.le_refl _) _
  have p3 := (PB.out.cell 3 (by simp)).1
  change World.cell? _ _ = some v3 at p3
  have p2 := (PB.out.cell 2 (by simp)).1
  change World.cell? _ _ = some (.string D.f2) at p2
  go_enter Try.func24, Try.ntmps24
  obtain ⟨l1, hl1⟩ : ∃ x : Int, x = l - (D.f2.size : Int) := ⟨_, rfl⟩
  have hw1 : IntKind.i64.wrap (l - (D.f2.size : Int)) = l1 := by rw [IntKind.wrap_i64, hl1]; omega
  have HL1 := hid hl1
  by_cases hc1 : l1 < 0
  · have hd1 : decide (l1 < 0) = true := by rw [decide_eq_true_eq]; exact hc1
    go_wp2
    go_ret
    exact ⟨_, rfl, ⟨.inl rfl, fun h => absurd h (by decide), by omega⟩, BW.out⟩
  have hd1 : decide (l1 < 0) = false := by rw [decide_eq_false_iff_not]; exact hc1
  clear hl1
  have hb1 : 0 ≤ l1 ∧ l1 ≤ 1048576 := by have := HL1.out; omega
  go_wp2_with fail
  refine (szSpanS_any _ D.f3 _ (H3.out.below BW.out) l1 (by omega) (by omega)).mono ?_
  rintro e w' ⟨l2, rfl, hl2, hw⟩; obtain rfl := hw.symm
  by_cases hc2 : l2 < 0
  · have hd2 : decide (l2 < 0) = true := by rw [decide_eq_true_eq]; exact hc2
    have HE : Hid (l2 = -1) := by show _ = _; omega
    go_wp2
    go_ret
    exact ⟨_, rfl, ⟨.inl rfl, fun h => absurd h (by decide), by omega⟩, BW.out⟩
  have hd2 : decide (l2 < 0) = false := by rw [decide_eq_false_iff_not]; exact hc2
  go_wp2
  go_ret
  have ht := HT.out
  have hq1 := HL1.out
  refine ⟨_, rfl, ⟨.inr ?_, fun _ => ?_, ?_⟩, BW.out⟩ <;> omega
end Go.Proofs.Ytnkpboobfkjibak
