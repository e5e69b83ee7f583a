/-
  spec.NewTurns where the quanta are not as said: no turns. Nothing old is written.
-/
import Derived.Test.YtnnmiddhbeiogazSNewTLeaf
import Derived.Test.YtnnmiddhbeiogazSAll7
namespace Go.Proofs.Ytnnmiddhbeiogaz
open Go.RowKit

set_option maxRecDepth 100000 in
set_option maxHeartbeats 16000000 in
theorem snewT_no (v : Value) (xs : List Int) (w : World) (hr : KReads w v xs) (h : newOk xs = false) :
    Calls Try.prog 25 #[v] w fun e w' => ∃ u0, e = .returned (.tuple #[u0, .bool false]) ∧ TuOwn (Iv w.heap.size w'.heap.size) w' u0 noT ∧ Below w.heap.size w w' := by
  have HR := hid hr
  obtain ⟨a, cap, rfl, _, _⟩ := hr
  have PB := hid (boxL_new w [.slice none 0 0, .slice none 0 0, .slice none 0 0, .slice none 0 0, .int .i64 0] 45)
  have B : Hid (Below w.heap.size w (w.alloc (.cells #[.slice none 0 0, .slice none 0 0, .slice none 0 0, .slice none 0 0, .int .i64 0] 45))) := (Below.refl _ _).alloc (Nat.le_refl _) _
  obtain ⟨y0, y1, y2, y3, y4⟩ := PB.out.five
  have x0 := (PB.out.cell 0 (by simp)).2
  have x1 := (PB.out.cell 1 (by simp)).2
  have x2 := (PB.out.cell 2 (by simp)).2
  have x3 := (PB.out.cell 3 (by simp)).2
  have x4 := (PB.out.cell 4 (by simp)).2
  unfold newOk at h
  obtain ⟨b1, h1⟩ : ∃ b, decide (1 ≤ (xs.length : Int) ∧ (xs.length : Int) ≤ 4) = b := ⟨_, rfl⟩
  obtain ⟨b2, h2⟩ : ∃ b, (xs.all fun x => decide (20 ≤ x ∧ x ≤ 100)) = b := ⟨_, rfl⟩
  rw [h1, h2] at h
  have E1 := hid h1
  have E2 := hid h2
  clear h1 h2
  go_enter Try.func25, Try.ntmps25
  go_wp2_with fail
  refine (l1In_eq (xs.length : Int) 1 4 b1 E1.out _).mono ?_
  rintro e w' ⟨rfl, hw⟩; obtain rfl := hw.symm
  cases b1
  · clear h
    go_wp2
    exact bodyPost_ret (v := .tuple #[.agg #[.slice none 0 0, .slice none 0 0, .slice none 0 0, .slice none 0 0, .int .i64 0], .bool false]) (by simp [results, Try.results25, go_sem, y0, y1, y2, y3, y4]) rfl ⟨_, rfl, noT_own _ _ _, B.out⟩
  · rw [Bool.true_and] at h
    subst h
    go_wp2_with fail
    refine (l1All7_eq _ xs 20 100 false E2.out _ (HR.out.below B.out)).mono ?_
    rintro e w' ⟨rfl, hw⟩; obtain rfl := hw.symm
    go_wp2
    exact bodyPost_ret (v := .tuple #[.agg #[.slice none 0 0, .slice none 0 0, .slice none 0 0, .slice none 0 0, .int .i64 0], .bool false]) (by simp [results, Try.results25, go_sem, y0, y1, y2, y3, y4]) rfl ⟨_, rfl, noT_own _ _ _, B.out⟩
end Go.Proofs.Ytnnmiddhbeiogaz
