/-
  spec.DrawGoodAgain, spec.DrawAllInTime: whatever tasks they draw, in memory of their own. Nothing old is written.
-/
import Derived.Test.YtmcmkobdkkibkabDrawAgain
namespace Go.Proofs.Ytmcmkobdkkibkab
open Go.RowKit

set_option maxRecDepth 100000 in
set_option maxHeartbeats 2000000 in
theorem drawGoodA_any (v : Value) (w : World) (h : CodeOk w.heap.size w v) :
    Calls Try.prog 98 #[v] w fun e w' => ∃ u, e = .returned u ∧ ∃ xs : List AgEl, xs.length ≤ 42 ∧ AgOwn w.heap.size w'.heap.size w' u xs ∧ Below w.heap.size w w' := by
  have H := hid (cur_new w v h)
  obtain ⟨a, len, cap, rfl, hlen, hx⟩ := h
  clear hlen hx
  go_enter Try.func98, Try.ntmps98
  go_wp2_with fail
  refine (again_any w.heap.size w.heap.size 0 _ H.out (by omega)).mono ?_
  rintro e w1 ⟨u1, rfl, xs, hx, o1, c1, g1⟩
  have O1 := hid (o1.mono (show w.heap.size ≤ _ by simp) (Nat.le_refl _)); have G1 := hid g1
  clear o1 c1 g1 H
  go_wp2
  go_ret
  exact ⟨_, rfl, xs, hx, O1.out, ((Below.refl _ _).alloc (Nat.le_refl _) _).trans (only_below G1.out (Nat.le_refl _) (by simp))⟩
theorem drawAll_any (v : Value) (w : World) (h : CodeOk w.heap.size w v) :
    Calls Try.prog 46 #[v] w fun e w' => ∃ u, e = .returned u ∧ ∃ xs : List AgEl, xs.length ≤ 42 ∧ AgOwn w.heap.size w'.heap.size w' u xs ∧ Below w.heap.size w w' := by
  have H := hid h
  obtain ⟨a, len, cap, rfl, hlen, hx⟩ := h
  clear hlen hx
  go_enter Try.func46, Try.ntmps46
  go_wp2_with fail
  refine (drawGoodA_any _ _ H.out).mono ?_
  rintro e w1 ⟨u1, rfl, xs, hx, o1, b1⟩
  have O1 := hid o1; have B1 := hid b1
  clear o1 b1
  go_wp2
  go_ret
  exact ⟨_, rfl, xs, hx, O1.out, B1.out⟩
end Go.Proofs.Ytmcmkobdkkibkab
