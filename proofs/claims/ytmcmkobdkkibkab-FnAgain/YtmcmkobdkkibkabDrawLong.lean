/-
  spec.DrawLongestOf: whatever tasks and number it draws, in memory of their own. Nothing old is written.
-/
import Derived.Test.YtmcmkobdkkibkabDrawAgain
namespace Go.Proofs.Ytmcmkobdkkibkab
open Go.RowKit

set_option maxRecDepth 100000 in
set_option maxHeartbeats 2000000 in
theorem drawLong_any (v : Value) (w : World) (h : CodeOk w.heap.size w v) :
    Calls Try.prog 36 #[v] w fun e w' => ∃ u0 z, e = .returned (.tuple #[u0, .int .i64 z]) ∧ ∃ xs : List AgEl, xs.length ≤ 42 ∧ AgOwn w.heap.size w'.heap.size w' u0 xs ∧ Below w.heap.size w w' := by
  have H := hid (cur_new w v h)
  obtain ⟨a, len, cap, rfl, hlen, hx⟩ := h
  clear hlen hx
  go_enter Try.func36, Try.ntmps36
  go_wp2_with fail
  refine (again_any w.heap.size w.heap.size 0 _ H.out (by omega)).mono ?_
  rintro e w1 ⟨u1, rfl, xs, hx, o1, c1, g1⟩
  have O1 := hid (o1.mono (show w.heap.size + 1 ≤ _ by simp) (Nat.le_refl _)); have C1 := hid c1; have G1 := hid g1; have hs1 := g1.size
  rw [World.size_alloc] at hs1
  obtain ⟨ax, cx, e1, _, _⟩ := o1.reads
  subst e1
  clear o1 c1 g1 H
  have hw1 : IntKind.i64.wrap ((xs.length : Int) + 2) = (xs.length : Int) + 2 := by rw [IntKind.wrap_i64]; omega
  go_wp2_with fail
  refine (pick_any w.heap.size w.heap.size _ ((xs.length : Int) + 2) _ C1.out (by omega) (by omega)).mono ?_
  rintro e w2 ⟨r2, hr2, rfl, c2, g2⟩
  have hs2 := g2.size
  have OX : Hid (AgOwn w.heap.size w2.heap.size w2 (.slice ax xs.length cx) xs) := (O1.out.at fun g' h1 h2 h3 => g2.block g' h3 (by intro e; cases e; omega)).mono (by omega) hs2
  have G2 := hid (only_trans G1.out g2)
  clear c2 g2
  go_wp2
  go_ret2
  exact ⟨_, _, rfl, xs, hx, OX.out, ((Below.refl _ _).alloc (Nat.le_refl _) _).trans (only_below G2.out (Nat.le_refl _) (by simp))⟩
end Go.Proofs.Ytmcmkobdkkibkab
