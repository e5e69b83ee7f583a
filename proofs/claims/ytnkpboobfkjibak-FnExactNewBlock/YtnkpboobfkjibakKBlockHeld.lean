/-
  laws.heldBlock: all numbers in its rows are told to be numbered. Nothing is written.
-/
import Derived.Test.YtnkpboobfkjibakKBlockMark
namespace Go.Proofs.Ytnkpboobfkjibak
open Go.RowKit

set_option maxRecDepth 100000 in
set_option maxHeartbeats 8000000 in
theorem heldBlock_any (v : Value) (D : BlD) (k m : Int) (w : World) (hr : BlReads w v (blMk k D)) (hn : blTot D ≤ 1048576) (h0 : 0 ≤ k) (h1 : k ≤ 100000000) (hm : m = k + (blN D : Nat)) :
    Calls Try.prog 23 #[v, .int .i64 k] w fun e w' => e = .returned (.int .i64 m) ∧ Below w.heap.size w w' := by
  obtain ⟨v3, rfl, h3⟩ := hr
  have hN : D.f2.size + D.f3.length ≤ 1048576 := hn
  have hk1 : m = (k + (2 * D.f3.length : Nat)) := hm
  have hq1 : m = k + (2 * D.f3.length : Nat) := by omega
  have HQ1 := hid hq1
  have hb1 : 0 ≤ m ∧ m ≤ 200000000 := by omega
  have hd1 : decide (m < 0) = false := by rw [decide_eq_false_iff_not]; omega
  have H3 : Hid (SpReads w v3 (spmarks k D.f3.length)) := by show SpReads w v3 (spmarks k D.f3.length); exact h3
  clear hm hn hk1 hq1 h3
  show Calls Try.prog 23 #[.agg #[.int .i64 D.f0, .int .i64 D.f1, .string D.f2, v3], .int .i64 k] w _
  have PB := hid (boxL_new w [.int .i64 D.f0, .int .i64 D.f1, .string D.f2, v3] 37)
  have BW : Hid (Below w.heap.size w (w.alloc (.cells #[.int .i64 D.f0, .int .i64 D.f1, .string D.f2, v3] 37))) := (Below.refl _ _).alloc (Nat.le_refl _) _
  have p3 := (PB.out.cell 3 (by simp)).1
  change World.cell? _ _ = some v3 at p3
  go_enter Try.func23, Try.ntmps23
  go_wp2_with fail
  refine (heldSpanS_any _ D.f3.length k m _ (H3.out.below BW.out) (by omega) (by omega) (by omega) HQ1.out).mono ?_
  rintro e w' ⟨rfl, hw⟩; obtain rfl := hw.symm
  go_wp2
  go_ret
  exact ⟨rfl, BW.out⟩
end Go.Proofs.Ytnkpboobfkjibak
