/-
  The cursor's seen: whatever it is. Nothing old is written but the cursor.
-/
import Derived.Test.YteeaebelknpdjacDraw
import Derived.Test.YteeaebelknpdjacSnPut
namespace Go.Proofs.Yteeaebelknpdjac
open Go.RowKit

theorem cur9_lt {B b N : Nat} {w : World} (h : Cur B w b N) : b < w.heap.size := by
  obtain ⟨_, _, v, f, at_, sd, hr, _⟩ := h
  exact hr.lt
set_option maxRecDepth 100000 in
set_option maxHeartbeats 8000000 in
theorem seen_any (B b N : Nat) (w : World) (h : Cur B w b N) (hN : N ≤ 1152921504606844000) :
    Calls Try.prog 101 #[.pointer (some ⟨b, 0, none⟩)] w fun e w' => ∃ x : SnEl, e = .returned (.agg #[.int .i64 x.1, .bool x.2.1, .bool x.2.2]) ∧ Cur B w' b (N + 10) ∧ w.grownBy w' (some b) := by
  have hbw := cur9_lt h
  have hBb : B ≤ b := h.1
  have b0 : Below w.heap.size w (w.alloc (snB (0, false, false))) := (Below.refl _ _).alloc (Nat.le_refl _) _
  have X0 := hid (snalloc w (0, false, false)); have F0 := hid (snfree_new w (0, false, false))
  have C0 := hid (h.below b0)
  have G0 : Hid (w.grownBy (w.alloc (snB (0, false, false))) (some b)) := only_of_below b0
  clear b0 h
  have HE : Hid (∀ (W : World) (x : SnEl), SnBox W w.heap.size (0, false, false) → Cur B W b (N + 10) → w.grownBy W (some b) → ∀ (tmps : Array Value), tmps[2]?.getD undef = .pointer (some ⟨w.heap.size, 0, none⟩) →
      bodyPost Try.prog Try.f101 (fun e w' => ∃ x : SnEl, e = .returned (.agg #[.int .i64 x.1, .bool x.2.1, .bool x.2.2]) ∧ Cur B w' b (N + 10) ∧ w.grownBy w' (some b)) .ret { tmps := tmps, defers := [] } (snput3 W w.heap.size x)) := by
    intro W x hx hc hg tmps ht
    obtain ⟨e0, e1, e2⟩ := snput3_same hx x
    refine bodyPost_ret (v := .agg #[.int .i64 x.1, .bool x.2.1, .bool x.2.2]) ?_ rfl ⟨x, rfl, ?_, ?_⟩
    · simp [results, Try.results101, go_sem, ht, e0, e1, e2]
    · exact hc.under hbw (by omega) (snbelow_put3 (Below.refl w.heap.size W) (Nat.le_refl _) x)
    · exact only_then hg (snbelow_put3 (Below.refl w.heap.size W) (Nat.le_refl _) x)
  go_enter Try.func101, Try.ntmps101
  go_wp2_with fail
  refine (pick_any B b N 8 _ C0.out (by omega) (by omega)).mono ?_
  rintro e w1 ⟨r, _, rfl, c1, g1⟩
  have hs1 : w.heap.size + 1 ≤ w1.heap.size := by have := g1.size; simpa using this
  have e1 := g1.block w.heap.size (by simp) (by intro e; cases e; omega)
  have X1 := hid (X0.out.of_block e1); have F1 := hid (F0.out.of_block e1)
  have C1 := hid c1; have G1 := hid (only_trans G0.out g1); clear c1 g1 X0 F0 C0 G0 e1
  obtain ⟨z, hz⟩ : ∃ z : Int, (r : Int) = z := ⟨_, rfl⟩
  rw [hz]
  clear hz
  by_cases h0 : z = 0
  · have d0 : (z == 0) = true := by simpa using h0
    clear h0
    go_wp2_with fail
    refine (pick_any B b (N + 2) 9 _ C1.out (by omega) (by omega)).mono ?_
    rintro e w2 ⟨r2, hr2, rfl, c2, g2⟩
    have e2 := g2.block w.heap.size (by omega) (by intro e; cases e; omega)
    have hs2 : w.heap.size + 1 ≤ w2.heap.size := by have := g2.size; omega
    have X2 := hid (X1.out.of_block e2); have F2 := hid (F1.out.of_block e2)
    have C2 := hid c2; have G2 := hid (only_trans G1.out g2); clear c2 g2 X1 F1 C1 G1 e2
    obtain ⟨z2, hz2⟩ : ∃ z : Int, (r2 : Int) = z := ⟨_, rfl⟩
    rw [hz2]
    obtain ⟨q, hq⟩ : ∃ q : Int, z2.tdiv 8 = q := ⟨_, rfl⟩
    have wq : IntKind.i64.wrap q = q := by
      have := Int.tdiv_eq_ediv_of_nonneg (show 0 ≤ z2 by omega) (b := 8)
      rw [IntKind.wrap_i64]; omega
    clear hz2 hr2
    go_wp2_with fail
    refine (one_any B b (N + 2 + 2) 30 _ C2.out (by omega) (by omega)).mono ?_
    rintro e w3 ⟨t3, rfl, c3, g3⟩
    have e3 := g3.block w.heap.size (by omega) (by intro e; cases e; omega)
    have X3 := hid (X2.out.of_block e3); have F3 := hid (F2.out.of_block e3)
    have C3 := hid (c3.mono (show N + 2 + 2 + 2 ≤ N + 10 by omega)); have G3 := hid (only_trans G2.out g3); clear c3 g3 X2 F2 C2 G2 e3
    obtain ⟨x0, x1, x2⟩ := X3.out
    obtain ⟨f0, f1, f2⟩ := F3.out
    go_wp2
    exact HE.out _ (q, t3, true) X3.out C3.out G3.out _ rfl
  have d0 : (z == 0) = false := by simpa using h0
  by_cases h1 : z = 1
  · have d1 : (z == 1) = true := by simpa using h1
    clear h0 h1
    go_wp2_with fail
    refine (pick_any B b (N + 2) 100 _ C1.out (by omega) (by omega)).mono ?_
    rintro e w2 ⟨r2, hr2, rfl, c2, g2⟩
    have e2 := g2.block w.heap.size (by omega) (by intro e; cases e; omega)
    have X2 := hid (X1.out.of_block e2); have F2 := hid (F1.out.of_block e2)
    have C2 := hid (c2.mono (show N + 2 + 2 ≤ N + 10 by omega)); have G2 := hid (only_trans G1.out g2); clear c2 g2 X1 F1 C1 G1 e2
    obtain ⟨x0, x1, x2⟩ := X2.out
    obtain ⟨f0, f1, f2⟩ := F2.out
    go_wp2
    exact HE.out _ (r2, true, false) X2.out C2.out G2.out _ rfl
  have d1 : (z == 1) = false := by simpa using h1
  clear h0 h1
  go_wp2_with fail
  refine (pick_any B b (N + 2) 9 _ C1.out (by omega) (by omega)).mono ?_
  rintro e w2 ⟨r2, hr2, rfl, c2, g2⟩
  have e2 := g2.block w.heap.size (by omega) (by intro e; cases e; omega)
  have hs2 : w.heap.size + 1 ≤ w2.heap.size := by have := g2.size; omega
  have X2 := hid (X1.out.of_block e2); have F2 := hid (F1.out.of_block e2)
  have C2 := hid c2; have G2 := hid (only_trans G1.out g2); clear c2 g2 X1 F1 C1 G1 e2
  obtain ⟨z2, hz2⟩ : ∃ z : Int, (r2 : Int) = z := ⟨_, rfl⟩
  rw [hz2]
  obtain ⟨q, hq⟩ : ∃ q : Int, z2.tdiv 8 = q := ⟨_, rfl⟩
  have hqq := Int.tdiv_eq_ediv_of_nonneg (show 0 ≤ z2 by omega) (b := 8)
  have wq : IntKind.i64.wrap q = q := by rw [IntKind.wrap_i64]; omega
  have wq2 : IntKind.i64.wrap (1000 + q) = 1000 + q := by rw [IntKind.wrap_i64]; omega
  have hbw2 : b < w2.heap.size := by omega
  clear hz2 hr2 hqq
  go_wp2_with fail
  refine (among_any B b (N + 2 + 2) w2.heap.size 9 9 _ (C2.out.below ((Below.refl _ _).alloc (Nat.le_refl _) _)) (by omega) (by omega) (lit_new w2 [0, 5, 10, 11, 12, 20, 100, 1000, 1000 + q] _) (by omega) (by omega)).mono ?_
  rintro e w3 ⟨z3, rfl, c3, g3⟩
  have e3 : w3.heap[w.heap.size]? = w2.heap[w.heap.size]? := (g3.block w.heap.size (by simp; omega) (by intro e; cases e; omega)).trans (Below.heap_alloc _ _ _ (by omega))
  have X3 := hid (X2.out.of_block e3); have F3 := hid (F2.out.of_block e3)
  have C3 := hid (c3.mono (show N + 2 + 2 + 2 ≤ N + 10 by omega)); have G3 := hid (only_trans (only_trans G2.out (World.grownBy_alloc _ _ _)) g3); clear c3 g3 X2 F2 C2 G2 e3
  obtain ⟨x0, x1, x2⟩ := X3.out
  obtain ⟨f0, f1, f2⟩ := F3.out
  go_wp2
  exact HE.out _ (z3, false, false) X3.out C3.out G3.out _ rfl
end Go.Proofs.Yteeaebelknpdjac
