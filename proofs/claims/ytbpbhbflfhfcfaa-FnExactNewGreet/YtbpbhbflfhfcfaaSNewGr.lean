/-
  NewGreet, of both: nothing written yet.
-/
import Derived.Test.YtbpbhbflfhfcfaaPut11
namespace Go.Proofs.Ytbpbhbflfhfcfaa
open Go.RowKit

set_option maxRecDepth 100000 in
theorem snewGr_any (w : World) : Calls Try.prog 25 #[] w fun e w' => ∃ u0, e = .returned u0 ∧ GrU w.heap.size w' u0 newG ∧ Below w.heap.size w w' := by
  go_enter Try.func25, Try.ntmps25
  go_wp2
  exact bodyPost_ret (v := grV newG (.slice none 0 0) (.slice none 0 0) (.slice none 0 0)) (by simp [results, Try.results25, go_sem, newG]) rfl ⟨_, rfl, grU_bare _ _ newG rfl rfl rfl, (Below.refl _ _).alloc (Nat.le_refl _) _⟩
set_option maxRecDepth 100000 in
theorem inewGr_any (w : World) : Calls Try.prog 26 #[] w fun e w' => ∃ u0, e = .returned u0 ∧ GrU w.heap.size w' u0 newG ∧ Below w.heap.size w w' := by
  go_enter Try.func26, Try.ntmps26
  go_wp2
  exact bodyPost_ret (v := grV newG (.slice none 0 0) (.slice none 0 0) (.slice none 0 0)) (by simp [results, Try.results26, go_sem, newG]) rfl ⟨_, rfl, grU_bare _ _ newG rfl rfl rfl, (Below.refl _ _).alloc (Nat.le_refl _) _⟩
end Go.Proofs.Ytbpbhbflfhfcfaa
