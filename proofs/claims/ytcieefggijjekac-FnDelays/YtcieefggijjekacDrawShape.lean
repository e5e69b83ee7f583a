/-
  spec.DrawShapeFlow, spec.DrawPassThrough: whatever rate, depth, flow and serve they draw, the flow in memory of its own. Nothing old is written.
-/
import Derived.Test.YtcieefggijjekacDrawFlow
namespace Go.Proofs.Ytcieefggijjekac
open Go.RowKit

set_option maxRecDepth 100000 in
set_option maxHeartbeats 2000000 in
theorem drawShape_any (v : Value) (w : World) (h : CodeOk w.heap.size w v) :
    Calls Try.prog 5 #[v] w fun e w' => ∃ r d u, e = .returned (.tuple #[.int .i64 r, .int .i64 d, u]) ∧ ∃ xs : List Int, xs.length ≤ 42 ∧ KOwn w.heap.size w'.heap.size w' u xs ∧ Below w.heap.size w w' := by
  have H := hid (cur_new w v h)
  obtain ⟨a, len, cap, rfl, hlen, hx⟩ := h
  clear hlen hx
  go_enter Try.func5, Try.ntmps5
  go_wp2_with fail
  refine (rate_any w.heap.size w.heap.size 0 _ H.out (by omega)).mono ?_
  rintro e w1 ⟨r, d, rfl, hd, c1, g1⟩
  have C1 := hid c1; have G1 := hid g1; have hs1 := g1.size
  rw [World.size_alloc] at hs1
  clear c1 g1 H
  go_wp2_with fail
  refine (flow_any w.heap.size w.heap.size _ _ C1.out (by omega)).mono ?_
  rintro e w2 ⟨u2, rfl, xs, hx, o2, c2, g2⟩
  have O2 := hid (o2.mono (show w.heap.size ≤ w1.heap.size by omega) (Nat.le_refl _)); have G2 := hid (only_trans G1.out g2)
  obtain ⟨ax, cx, e1, _, _⟩ := o2.reads
  subst e1
  clear o2 c2 g2 C1
  go_wp2
  go_ret3
  exact ⟨_, _, _, rfl, xs, hx, O2.out, ((Below.refl _ _).alloc (Nat.le_refl _) _).trans (only_below G2.out (Nat.le_refl _) (by simp))⟩
set_option maxRecDepth 100000 in
set_option maxHeartbeats 2000000 in
theorem drawPass_any (v : Value) (w : World) (h : CodeOk w.heap.size w v) :
    Calls Try.prog 26 #[v] w fun e w' => ∃ u0 z, e = .returned (.tuple #[u0, .int .i64 z]) ∧ ∃ xs : List Int, xs.length ≤ 42 ∧ KOwn w.heap.size w'.heap.size w' u0 xs ∧ Below w.heap.size w w' := by
  have H := hid (cur_new w v h)
  obtain ⟨a, len, cap, rfl, hlen, hx⟩ := h
  clear hlen hx
  go_enter Try.func26, Try.ntmps26
  go_wp2_with fail
  refine (flow_any w.heap.size w.heap.size 0 _ H.out (by omega)).mono ?_
  rintro e w1 ⟨u1, rfl, xs, hx, o1, c1, g1⟩
  have O1 := hid (o1.mono (show w.heap.size + 1 ≤ _ by simp) (Nat.le_refl _)); have C1 := hid c1; have G1 := hid g1; have hs1 := g1.size
  rw [World.size_alloc] at hs1
  obtain ⟨ax, cx, e1, _, _⟩ := o1.reads
  subst e1
  clear o1 c1 g1 H
  go_wp2_with fail
  refine (among_any w.heap.size w.heap.size _ w1.heap.size 7 7 _ (C1.out.below ((Below.refl _ _).alloc (Nat.le_refl _) _)) (by omega) (by omega) (lit_new w1 [0, 1, 3, 5, 20, 60, 61] _) (by omega) (by omega)).mono ?_
  rintro e w2 ⟨z2, rfl, c2, g2⟩
  have hs2 : w1.heap.size + 1 ≤ w2.heap.size := by have := g2.size; simpa using this
  have OX : Hid (KOwn w.heap.size w2.heap.size w2 (.slice ax xs.length cx) xs) := (O1.out.at fun g' h1 h2 h3 => (g2.block g' (by simp; omega) (by intro e; cases e; omega)).trans (Below.heap_alloc _ _ _ h3)).mono (by omega) (by omega)
  have G2 := hid (only_trans (only_trans G1.out (World.grownBy_alloc _ _ _)) g2)
  clear c2 g2
  go_wp2
  go_ret2
  exact ⟨_, _, rfl, xs, hx, OX.out, ((Below.refl _ _).alloc (Nat.le_refl _) _).trans (only_below G2.out (Nat.le_refl _) (by simp))⟩
end Go.Proofs.Ytcieefggijjekac
