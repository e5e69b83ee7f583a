/-
  spec.DrawConforms: whatever rate, depth and flow it draws, the flow in memory of its own. Nothing old is written.
-/
import Derived.Test.YtcieefggijjekacDrawFlow
import Derived.Test.YtcieefggijjekacSShape
namespace Go.Proofs.Ytcieefggijjekac
open Go.RowKit

theorem sshape_any (r d : Int) (v : Value) (xs : List Int) (hl : xs.length ≤ 42) (w : World) (hr : KReads w v xs) :
    Calls Try.prog 7 #[.int .i64 r, .int .i64 d, v] w fun e w' => ∃ u0 u1 t, e = .returned (.tuple #[u0, u1, .bool t]) ∧ (∃ ys : List Int, ys.length ≤ 42 ∧ KOwn w.heap.size w'.heap.size w' u0 ys) ∧ (∃ zs : List Int, KOwn w.heap.size w'.heap.size w' u1 zs) ∧ Below w.heap.size w w' := by
  by_cases h : rateB r d = true ∧ flowB xs = true
  · refine (sshape_yes r d v xs w hr h.1 h.2).mono ?_
    rintro e w' ⟨u0, u1, rfl, o0, o1, _, b⟩
    exact ⟨u0, u1, true, rfl, ⟨_, by rw [goL_len]; exact hl, o0⟩, ⟨_, o1⟩, b⟩
  · have hn : (rateB r d && flowB xs) = false := by
      cases h1 : rateB r d <;> cases h2 : flowB xs <;> simp_all
    refine (sshape_no r d v xs w hr hn).mono ?_
    rintro e w' ⟨u0, u1, rfl, o0, o1, _, b⟩
    exact ⟨u0, u1, false, rfl, ⟨[], by simp, o0⟩, ⟨_, o1⟩, b⟩
set_option maxRecDepth 100000 in
set_option maxHeartbeats 2000000 in
theorem drawConf_any (v : Value) (w : World) (h : CodeOk w.heap.size w v) :
    Calls Try.prog 22 #[v] w fun e w' => ∃ r d u, e = .returned (.tuple #[.int .i64 r, .int .i64 d, u]) ∧ ∃ xs : List Int, xs.length ≤ 42 ∧ KOwn w.heap.size w'.heap.size w' u xs ∧ Below w.heap.size w w' := by
  have H := hid (cur_new w v h)
  obtain ⟨a, len, cap, rfl, hlen, hx⟩ := h
  clear hlen hx
  go_enter Try.func22, Try.ntmps22
  go_wp2_with fail
  refine (rate_any w.heap.size w.heap.size 0 _ H.out (by omega)).mono ?_
  rintro e w1 ⟨r, d, rfl, hd, c1, g1⟩
  have C1 := hid c1; have G1 := hid g1; have hs1 := g1.size
  rw [World.size_alloc] at hs1
  clear c1 g1 H
  go_wp2_with fail
  refine (flow_any w.heap.size w.heap.size _ _ C1.out (by omega)).mono ?_
  rintro e w2 ⟨u2, rfl, xs, hx, o2, c2, g2⟩
  have O2 := hid (o2.mono (show w.heap.size + 1 ≤ w1.heap.size by omega) (Nat.le_refl _)); have G2 := hid (only_trans G1.out g2); have C2 := hid c2
  have hs2 := g2.size
  obtain ⟨ax, cx, e1, _, _⟩ := o2.reads
  subst e1
  clear o2 c2 g2 C1 G1
  go_wp2_with fail
  refine (sshape_any r d _ xs hx _ O2.out.reads).mono ?_
  rintro e w3 ⟨u0, u1, t, rfl, ⟨ys, hy, o3⟩, ⟨zs, o4⟩, b3⟩
  have hs3 := b3.size
  have O3 := hid (O2.out.below b3)
  have P3 := hid (o3.mono (show w.heap.size + 1 ≤ w2.heap.size by omega) (Nat.le_refl _))
  have C3 := hid (C2.out.below b3)
  have G3 := hid (only_then G2.out (b3.mono (by rw [World.size_alloc]; omega)))
  obtain ⟨a0, c0, e0, _, _⟩ := o3.reads
  subst e0
  obtain ⟨a1, c1, e1, _, _⟩ := o4.reads
  subst e1
  clear o3 o4 b3 O2 C2 G2
  cases t
  · go_wp2
    go_ret3
    exact ⟨_, _, _, rfl, xs, hx, O3.out.mono (by omega) (by omega), ((Below.refl _ _).alloc (Nat.le_refl _) _).trans (only_below G3.out (Nat.le_refl _) (by simp))⟩
  · go_wp2_with fail
    refine (one_any w.heap.size w.heap.size _ 2 _ C3.out (by omega) (by omega)).mono ?_
    rintro e w4 ⟨t4, rfl, c4, g4⟩
    have hs4 := g4.size
    have O4 := hid (O3.out.at fun g' h1 h2 h3 => g4.block g' h3 (by intro e; cases e; omega))
    have P4 := hid (P3.out.at fun g' h1 h2 h3 => g4.block g' h3 (by intro e; cases e; omega))
    have G4 := hid (only_trans G3.out g4)
    clear c4 g4 O3 P3 C3 G3
    cases t4
    · go_wp2
      go_ret3
      exact ⟨_, _, _, rfl, xs, hx, O4.out.mono (by omega) (by omega), ((Below.refl _ _).alloc (Nat.le_refl _) _).trans (only_below G4.out (Nat.le_refl _) (by simp))⟩
    · go_wp2
      go_ret3
      exact ⟨_, _, _, rfl, ys, hy, P4.out.mono (by omega) (by omega), ((Below.refl _ _).alloc (Nat.le_refl _) _).trans (only_below G4.out (Nat.le_refl _) (by simp))⟩
end Go.Proofs.Ytcieefggijjekac
