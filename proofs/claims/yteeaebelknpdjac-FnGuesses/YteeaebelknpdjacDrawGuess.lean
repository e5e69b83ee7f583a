/-
  The cursor's guess, spec.DrawSeeGuess, spec.DrawNewGuess: whatever they are. Nothing old is written but the cursor.
-/
import Derived.Test.YteeaebelknpdjacDrawAllSeen
import Derived.Test.YteeaebelknpdjacSSeeAll
namespace Go.Proofs.Yteeaebelknpdjac
open Go.RowKit

set_option maxRecDepth 100000 in
set_option maxHeartbeats 8000000 in
theorem guess_any (B b N : Nat) (w : World) (h : Cur B w b N) (hN : N ≤ 1152921504606830000) :
    Calls Try.prog 100 #[.pointer (some ⟨b, 0, none⟩)] w fun e w' => ∃ x : GuEl, e = .returned (.agg #[.int .i64 x.1, .int .i64 x.2.1, .int .i64 x.2.2.1, .int .i64 x.2.2.2]) ∧ Cur B w' b (N + 1000) ∧ w.grownBy w' (some b) := by
  have hbw := cur9_lt h
  have hBb : B ≤ b := h.1
  have b0 : Below w.heap.size w (w.alloc (guB (0, 0, 0, 0))) := (Below.refl _ _).alloc (Nat.le_refl _) _
  have hg0 := galloc4 w (0, 0, 0, 0)
  have X0 := hid hg0.1; have F0 := hid hg0.2
  have C0 := hid (h.below b0)
  have G0 : Hid (w.grownBy (w.alloc (guB (0, 0, 0, 0))) (some b)) := only_of_below b0
  clear b0 h hg0
  have HE : Hid (∀ (W : World) (x : GuEl), GuCells W w.heap.size (0, 0, 0, 0) → Cur B W b (N + 1000) → w.grownBy W (some b) → ∀ (tmps : Array Value), tmps[2]?.getD undef = .pointer (some ⟨w.heap.size, 0, none⟩) →
      bodyPost Try.prog Try.f100 (fun e w' => ∃ x : GuEl, e = .returned (.agg #[.int .i64 x.1, .int .i64 x.2.1, .int .i64 x.2.2.1, .int .i64 x.2.2.2]) ∧ Cur B w' b (N + 1000) ∧ w.grownBy w' (some b)) .ret { tmps := tmps, defers := [] } (gput4 W w.heap.size x)) := by
    intro W x hx hc hg tmps ht
    obtain ⟨e0, e1, e2, e3⟩ := gput4_same hx x
    refine bodyPost_ret (v := .agg #[.int .i64 x.1, .int .i64 x.2.1, .int .i64 x.2.2.1, .int .i64 x.2.2.2]) ?_ rfl ⟨x, rfl, ?_, ?_⟩
    · simp [results, Try.results100, go_sem, ht, e0, e1, e2, e3]
    · exact hc.under hbw (by omega) (gbelow_put4 (Below.refl w.heap.size W) (Nat.le_refl _) x)
    · exact only_then hg (gbelow_put4 (Below.refl w.heap.size W) (Nat.le_refl _) x)
  go_enter Try.func100, Try.ntmps100
  go_wp2_with fail
  refine (pick_any B b N 100 _ C0.out (by omega) (by omega)).mono ?_
  rintro e w1 ⟨r, hr1, rfl, c1, g1⟩
  have hs1 : w.heap.size + 1 ≤ w1.heap.size := by have := g1.size; simpa using this
  have e1 := g1.block w.heap.size (by simp) (by intro e; cases e; omega)
  have X1 := hid (X0.out.of_block e1); have F1 := hid (F0.out.of_block e1)
  have C1 := hid c1; have G1 := hid (only_trans G0.out g1); clear c1 g1 X0 F0 C0 G0 e1
  obtain ⟨z, hz⟩ : ∃ z : Int, 1 + (r : Int) = z := ⟨_, rfl⟩
  have wz : IntKind.i64.wrap (1 + (r : Int)) = z := by rw [IntKind.wrap_i64]; omega
  clear hz hr1
  go_wp2_with fail
  refine (allSeen_any B b (N + 2) _ C1.out (by omega)).mono ?_
  rintro e w2 ⟨v, rfl, xs, _, o2, c2, g2⟩
  have hs2 : w.heap.size + 1 ≤ w2.heap.size := by have := g2.size; omega
  have e2 := g2.block w.heap.size (by omega) (by intro e; cases e; omega)
  have X2 := hid (X1.out.of_block e2); have F2 := hid (F1.out.of_block e2)
  have C2 := hid c2; have G2 := hid (only_trans G1.out g2); have O2 := hid o2.reads; clear c2 g2 o2 X1 F1 C1 G1 e2
  obtain ⟨ok, hok⟩ : ∃ ok, seeAllB z xs = ok := ⟨_, rfl⟩
  obtain ⟨R, hR⟩ : ∃ R : GuEl, R = bif ok then seesG (newG z) xs else (0, 0, 0, 0) := ⟨_, rfl⟩
  have HOK := hid hok; have HRR := hid hR
  clear hok hR
  go_wp2_with fail
  refine (sseeAll_any z v xs ok HOK.out R HRR.out _ O2.out).mono ?_
  rintro e w3 ⟨rfl, b3⟩
  have hs3 : w.heap.size + 1 ≤ w3.heap.size := by have := b3.size; omega
  have e3 := b3.block w.heap.size (by omega)
  have bb : Below w3.heap.size w3 (w3.alloc (guB R)) := (Below.refl _ _).alloc (Nat.le_refl _) _
  have X3 := hid ((X2.out.of_block e3).below bb (by omega)); have F3 := hid ((F2.out.of_block e3).below bb (by omega))
  have C3 := hid ((C2.out.below b3).below bb)
  have G3 := hid (only_then (only_trans G2.out (only_of_below b3)) (bb.mono (by omega)))
  have hR3 := galloc4 w3 R
  have Y3 := hid hR3.1; have YF3 := hid hR3.2
  clear b3 bb hR3 X2 F2 C2 G2 O2 HOK HRR e3
  have hwH : w.heap.size < w3.heap.size := by omega
  have hbH : b < w3.heap.size := by omega
  obtain ⟨H, hH⟩ : ∃ H, H = w3.heap.size := ⟨_, rfl⟩
  have hsW : (w3.alloc (guB R)).heap.size = H + 1 := by rw [World.size_alloc, hH]
  rw [← hH] at Y3 YF3 hwH hbH
  have HH := hid hH
  clear hH
  cases ok
  case false =>
    replace C3 := hid (C3.out.mono (show N + 2 + 900 ≤ N + 910 by omega))
    have hsz : H + 1 ≤ (w3.alloc (guB R)).heap.size := by omega
    go_wp2_with fail
    rw [← HH.out]
    refine (among_any B b (N + 910) (H + 1) 4 4 _ (C3.out.below ((Below.refl _ _).alloc (Nat.le_refl _) _)) (by omega) (by omega) (by have := lit_new (w3.alloc (guB R)) [0, 80, 8000, 8001] 3; rw [hsW] at this; exact this) (by omega) (by omega)).mono ?_
    rintro e v4 ⟨z4, rfl, c, g⟩
    have ea : v4.heap[w.heap.size]? = (w3.alloc (guB R)).heap[w.heap.size]? := (g.block w.heap.size (by rw [World.size_alloc]; omega) (by intro e; cases e; omega)).trans (Below.heap_alloc _ _ _ (by omega))
    have eb : v4.heap[H]? = (w3.alloc (guB R)).heap[H]? := (g.block H (by rw [World.size_alloc]; omega) (by intro e; cases e; omega)).trans (Below.heap_alloc _ _ _ (by omega))
    have hsn : H + 1 ≤ v4.heap.size := by have := g.size; rw [World.size_alloc] at this; omega
    have X4 := hid (X3.out.of_block ea)
    have F4 := hid (F3.out.of_block ea)
    have Y4 := hid (Y3.out.of_block eb)
    have YF4 := hid (YF3.out.of_block eb)
    have C4 := hid c; have G4 := hid (only_trans (only_trans G3.out (World.grownBy_alloc _ _ _)) g)
    clear c g ea eb hsz X3 F3 Y3 YF3 C3 G3
    have hsz := hsn
    clear hsn
    go_wp2_with fail
    refine (among_any B b (N + 910 + 2) v4.heap.size 3 3 _ (C4.out.below ((Below.refl _ _).alloc (Nat.le_refl _) _)) (by omega) (by omega) (lit_new v4 [0, 7, 4000] _) (by omega) (by omega)).mono ?_
    rintro e v5 ⟨z5, rfl, c, g⟩
    have ea : v5.heap[w.heap.size]? = (v4).heap[w.heap.size]? := (g.block w.heap.size (by rw [World.size_alloc]; omega) (by intro e; cases e; omega)).trans (Below.heap_alloc _ _ _ (by omega))
    have eb : v5.heap[H]? = (v4).heap[H]? := (g.block H (by rw [World.size_alloc]; omega) (by intro e; cases e; omega)).trans (Below.heap_alloc _ _ _ (by omega))
    have hsn : H + 1 ≤ v5.heap.size := by have := g.size; rw [World.size_alloc] at this; omega
    have X5 := hid (X4.out.of_block ea)
    have F5 := hid (F4.out.of_block ea)
    have Y5 := hid (Y4.out.of_block eb)
    have YF5 := hid (YF4.out.of_block eb)
    have C5 := hid c; have G5 := hid (only_trans (only_trans G4.out (World.grownBy_alloc _ _ _)) g)
    clear c g ea eb hsz X4 F4 Y4 YF4 C4 G4
    have hsz := hsn
    clear hsn
    go_wp2_with fail
    refine (among_any B b (N + 910 + 2 + 2) v5.heap.size 2 2 _ (C5.out.below ((Below.refl _ _).alloc (Nat.le_refl _) _)) (by omega) (by omega) (lit_new v5 [0, 1000] _) (by omega) (by omega)).mono ?_
    rintro e v6 ⟨z6, rfl, c, g⟩
    have ea : v6.heap[w.heap.size]? = (v5).heap[w.heap.size]? := (g.block w.heap.size (by rw [World.size_alloc]; omega) (by intro e; cases e; omega)).trans (Below.heap_alloc _ _ _ (by omega))
    have eb : v6.heap[H]? = (v5).heap[H]? := (g.block H (by rw [World.size_alloc]; omega) (by intro e; cases e; omega)).trans (Below.heap_alloc _ _ _ (by omega))
    have hsn : H + 1 ≤ v6.heap.size := by have := g.size; rw [World.size_alloc] at this; omega
    have X6 := hid (X5.out.of_block ea)
    have F6 := hid (F5.out.of_block ea)
    have Y6 := hid (Y5.out.of_block eb)
    have YF6 := hid (YF5.out.of_block eb)
    have C6 := hid c; have G6 := hid (only_trans (only_trans G5.out (World.grownBy_alloc _ _ _)) g)
    clear c g ea eb hsz X5 F5 Y5 YF5 C5 G5
    have hsz := hsn
    clear hsn
    go_wp2_with fail
    refine (pick_any B b (N + 910 + 2 + 2 + 2) 8 _ C6.out (by omega) (by omega)).mono ?_
    rintro e v7 ⟨r7, _, rfl, c, g⟩
    have ea := g.block w.heap.size (by omega) (by intro e; cases e; omega)
    have eb := g.block H (by omega) (by intro e; cases e; omega)
    have X7 := hid (X6.out.of_block ea)
    have F7 := hid (F6.out.of_block ea)
    have Y7 := hid (Y6.out.of_block eb)
    have YF7 := hid (YF6.out.of_block eb)
    have C7 := hid (c.mono (show N + 910 + 2 + 2 + 2 + 2 ≤ N + 1000 by omega)); have G7 := hid (only_trans G6.out g)
    clear c g ea eb X6 F6 Y6 YF6 C6 G6
    have nb : (gput4 v7 H (z4, z5, z6, (r7 : Int))).heap[w.heap.size]? = v7.heap[w.heap.size]? := by
      rw [Below.heap_setCell _ _ _ _ (by show _ ≠ H; omega), Below.heap_setCell _ _ _ _ (by show _ ≠ H; omega), Below.heap_setCell _ _ _ _ (by show _ ≠ H; omega), Below.heap_setCell _ _ _ _ (by show _ ≠ H; omega)]
    have X := hid (X7.out.of_block nb); have F := hid (F7.out.of_block nb)
    have Y := hid (gput4_same Y7.out (z4, z5, z6, (r7 : Int)))
    have bp : Below w.heap.size v7 (gput4 v7 H (z4, z5, z6, (r7 : Int))) := gbelow_put4 (Below.refl _ _) (by omega) (z4, z5, z6, (r7 : Int))
    have C := hid (C7.out.under hbw (by omega) bp); have G := hid (only_then G7.out bp)
    obtain ⟨u0, u1, u2, u3⟩ := Y7.out
    obtain ⟨g0, g1, g2, g3⟩ := YF7.out
    clear nb bp X7 F7 C7 G7
    obtain ⟨x0, x1, x2, x3⟩ := X.out
    obtain ⟨f0, f1, f2, f3⟩ := F.out
    obtain ⟨y0, y1, y2, y3⟩ := Y.out
    go_wp2
    exact HE.out _ (z4, z5, z6, (r7 : Int)) X.out C.out G.out _ rfl
  go_wp2_with fail
  rw [← HH.out]
  refine (one_any B b (N + 2 + 900) 12 _ C3.out (by omega) (by omega)).mono ?_
  rintro e w4 ⟨t, rfl, c4, g4⟩
  have hsz := g4.size
  rw [hsW] at hsz
  have ea := g4.block w.heap.size (by rw [hsW]; omega) (by intro e; cases e; omega)
  have eb := g4.block H (by rw [hsW]; omega) (by intro e; cases e; omega)
  have X4 := hid (X3.out.of_block ea); have F4 := hid (F3.out.of_block ea)
  have Y4 := hid (Y3.out.of_block eb); have YF4 := hid (YF3.out.of_block eb)
  have C4 := hid (c4.mono (show N + 2 + 900 + 2 ≤ N + 910 by omega)); have G4 := hid (only_trans G3.out g4)
  clear c4 g4 ea eb X3 F3 Y3 YF3 C3 G3 hsW HH
  cases t
  case false =>
    obtain ⟨x0, x1, x2, x3⟩ := X4.out
    obtain ⟨f0, f1, f2, f3⟩ := F4.out
    obtain ⟨y0, y1, y2, y3⟩ := Y4.out
    go_wp2
    exact HE.out _ R X4.out (C4.out.mono (by omega)) G4.out _ rfl
  go_wp2_with fail
  refine (among_any B b (N + 910) w4.heap.size 4 4 _ (C4.out.below ((Below.refl _ _).alloc (Nat.le_refl _) _)) (by omega) (by omega) (lit_new w4 [0, 80, 8000, 8001] _) (by omega) (by omega)).mono ?_
  rintro e v5 ⟨z5, rfl, c, g⟩
  have ea : v5.heap[w.heap.size]? = (w4).heap[w.heap.size]? := (g.block w.heap.size (by rw [World.size_alloc]; omega) (by intro e; cases e; omega)).trans (Below.heap_alloc _ _ _ (by omega))
  have eb : v5.heap[H]? = (w4).heap[H]? := (g.block H (by rw [World.size_alloc]; omega) (by intro e; cases e; omega)).trans (Below.heap_alloc _ _ _ (by omega))
  have hsn : H + 1 ≤ v5.heap.size := by have := g.size; rw [World.size_alloc] at this; omega
  have X5 := hid (X4.out.of_block ea)
  have F5 := hid (F4.out.of_block ea)
  have Y5 := hid (Y4.out.of_block eb)
  have YF5 := hid (YF4.out.of_block eb)
  have C5 := hid c; have G5 := hid (only_trans (only_trans G4.out (World.grownBy_alloc _ _ _)) g)
  clear c g ea eb hsz X4 F4 Y4 YF4 C4 G4
  have hsz := hsn
  clear hsn
  go_wp2_with fail
  refine (among_any B b (N + 910 + 2) v5.heap.size 3 3 _ (C5.out.below ((Below.refl _ _).alloc (Nat.le_refl _) _)) (by omega) (by omega) (lit_new v5 [0, 7, 4000] _) (by omega) (by omega)).mono ?_
  rintro e v6 ⟨z6, rfl, c, g⟩
  have ea : v6.heap[w.heap.size]? = (v5).heap[w.heap.size]? := (g.block w.heap.size (by rw [World.size_alloc]; omega) (by intro e; cases e; omega)).trans (Below.heap_alloc _ _ _ (by omega))
  have eb : v6.heap[H]? = (v5).heap[H]? := (g.block H (by rw [World.size_alloc]; omega) (by intro e; cases e; omega)).trans (Below.heap_alloc _ _ _ (by omega))
  have hsn : H + 1 ≤ v6.heap.size := by have := g.size; rw [World.size_alloc] at this; omega
  have X6 := hid (X5.out.of_block ea)
  have F6 := hid (F5.out.of_block ea)
  have Y6 := hid (Y5.out.of_block eb)
  have YF6 := hid (YF5.out.of_block eb)
  have C6 := hid c; have G6 := hid (only_trans (only_trans G5.out (World.grownBy_alloc _ _ _)) g)
  clear c g ea eb hsz X5 F5 Y5 YF5 C5 G5
  have hsz := hsn
  clear hsn
  go_wp2_with fail
  refine (among_any B b (N + 910 + 2 + 2) v6.heap.size 2 2 _ (C6.out.below ((Below.refl _ _).alloc (Nat.le_refl _) _)) (by omega) (by omega) (lit_new v6 [0, 1000] _) (by omega) (by omega)).mono ?_
  rintro e v7 ⟨z7, rfl, c, g⟩
  have ea : v7.heap[w.heap.size]? = (v6).heap[w.heap.size]? := (g.block w.heap.size (by rw [World.size_alloc]; omega) (by intro e; cases e; omega)).trans (Below.heap_alloc _ _ _ (by omega))
  have eb : v7.heap[H]? = (v6).heap[H]? := (g.block H (by rw [World.size_alloc]; omega) (by intro e; cases e; omega)).trans (Below.heap_alloc _ _ _ (by omega))
  have hsn : H + 1 ≤ v7.heap.size := by have := g.size; rw [World.size_alloc] at this; omega
  have X7 := hid (X6.out.of_block ea)
  have F7 := hid (F6.out.of_block ea)
  have Y7 := hid (Y6.out.of_block eb)
  have YF7 := hid (YF6.out.of_block eb)
  have C7 := hid c; have G7 := hid (only_trans (only_trans G6.out (World.grownBy_alloc _ _ _)) g)
  clear c g ea eb hsz X6 F6 Y6 YF6 C6 G6
  have hsz := hsn
  clear hsn
  go_wp2_with fail
  refine (pick_any B b (N + 910 + 2 + 2 + 2) 8 _ C7.out (by omega) (by omega)).mono ?_
  rintro e v8 ⟨r8, _, rfl, c, g⟩
  have ea := g.block w.heap.size (by omega) (by intro e; cases e; omega)
  have eb := g.block H (by omega) (by intro e; cases e; omega)
  have X8 := hid (X7.out.of_block ea)
  have F8 := hid (F7.out.of_block ea)
  have Y8 := hid (Y7.out.of_block eb)
  have YF8 := hid (YF7.out.of_block eb)
  have C8 := hid (c.mono (show N + 910 + 2 + 2 + 2 + 2 ≤ N + 1000 by omega)); have G8 := hid (only_trans G7.out g)
  clear c g ea eb X7 F7 Y7 YF7 C7 G7
  have nb : (gput4 v8 H (z5, z6, z7, (r8 : Int))).heap[w.heap.size]? = v8.heap[w.heap.size]? := by
    rw [Below.heap_setCell _ _ _ _ (by show _ ≠ H; omega), Below.heap_setCell _ _ _ _ (by show _ ≠ H; omega), Below.heap_setCell _ _ _ _ (by show _ ≠ H; omega), Below.heap_setCell _ _ _ _ (by show _ ≠ H; omega)]
  have X := hid (X8.out.of_block nb); have F := hid (F8.out.of_block nb)
  have Y := hid (gput4_same Y8.out (z5, z6, z7, (r8 : Int)))
  have bp : Below w.heap.size v8 (gput4 v8 H (z5, z6, z7, (r8 : Int))) := gbelow_put4 (Below.refl _ _) (by omega) (z5, z6, z7, (r8 : Int))
  have C := hid (C8.out.under hbw (by omega) bp); have G := hid (only_then G8.out bp)
  obtain ⟨u0, u1, u2, u3⟩ := Y8.out
  obtain ⟨g0, g1, g2, g3⟩ := YF8.out
  clear nb bp X8 F8 C8 G8
  obtain ⟨x0, x1, x2, x3⟩ := X.out
  obtain ⟨f0, f1, f2, f3⟩ := F.out
  obtain ⟨y0, y1, y2, y3⟩ := Y.out
  go_wp2
  exact HE.out _ (z5, z6, z7, (r8 : Int)) X.out C.out G.out _ rfl
theorem CodeOk.later9 {w w' : World} {v : Value} (h : CodeOk w.heap.size w v) (hb : Below w.heap.size w w') : CodeOk w'.heap.size w' v := by
  obtain ⟨a, len, cap, rfl, hl, hx⟩ := h.below hb
  refine ⟨a, len, cap, rfl, hl, ?_⟩
  rcases hx with hx | ⟨cb, off, rfl, hlt, hc⟩
  · exact .inl hx
  · exact .inr ⟨cb, off, rfl, Nat.lt_of_lt_of_le hlt hb.size, hc⟩
set_option maxHeartbeats 4000000 in
theorem drawNewG_any (v : Value) (w : World) (h : CodeOk w.heap.size w v) :
    Calls Try.prog 57 #[v] w fun e w' => ∃ z : Int, e = .returned (.int .i64 z) ∧ Below w.heap.size w w' := by
  have H := hid (cur_new w v h)
  obtain ⟨a, len, cap, rfl, hlen, hx⟩ := h
  clear hlen hx
  go_enter Try.func57, Try.ntmps57
  go_wp2_with fail
  refine (among_any w.heap.size w.heap.size 0 (w.heap.size + 1) 5 5 _ (H.out.below ((Below.refl _ _).alloc (Nat.le_refl _) _)) (by omega) (by omega) (by have := lit_new (w.alloc (.cells #[.slice a len cap, .int .i64 0, .int .u64 0] 85)) [0, 1, 5, 1000, 1001] 3; rw [World.size_alloc] at this; exact this) (by omega) (by omega)).mono ?_
  rintro e w1 ⟨z, rfl, c1, g1⟩
  have G1 := hid g1; clear c1 g1 H
  go_wp2
  go_ret
  exact ⟨_, rfl, (((Below.refl _ _).alloc (Nat.le_refl _) _).alloc (by simp) _).trans (only_below G1.out (Nat.le_refl _) (by simp; omega))⟩
set_option maxHeartbeats 8000000 in
theorem drawSeeG_any (v : Value) (w : World) (h : CodeOk w.heap.size w v) :
    Calls Try.prog 51 #[v] w fun e w' => ∃ (x : GuEl) (y : SnEl), e = .returned (.tuple #[.agg #[.int .i64 x.1, .int .i64 x.2.1, .int .i64 x.2.2.1, .int .i64 x.2.2.2], .agg #[.int .i64 y.1, .bool y.2.1, .bool y.2.2]]) ∧ Below w.heap.size w w' := by
  have b0 : Below w.heap.size w (w.alloc (guB (0, 0, 0, 0))) := (Below.refl _ _).alloc (Nat.le_refl _) _
  have s0 : (w.alloc (guB (0, 0, 0, 0))).heap.size = w.heap.size + 1 := World.size_alloc ..
  have b1 : Below (w.heap.size + 1) (w.alloc (guB (0, 0, 0, 0))) ((w.alloc (guB (0, 0, 0, 0))).alloc (snB (0, false, false))) := (Below.refl _ _).alloc (by omega) _
  have s1 : ((w.alloc (guB (0, 0, 0, 0))).alloc (snB (0, false, false))).heap.size = w.heap.size + 2 := by rw [World.size_alloc, s0]
  have hg := galloc4 w (0, 0, 0, 0)
  have X0 := hid (hg.1.below b1 (by omega)); have F0 := hid (hg.2.below b1 (by omega))
  have hn := snalloc (w.alloc (guB (0, 0, 0, 0))) (0, false, false)
  have hm := snfree_new (w.alloc (guB (0, 0, 0, 0))) (0, false, false)
  rw [s0] at hn hm
  have Z0 := hid hn; have ZF0 := hid hm
  have B0 := hid (b0.trans (b1.mono (by omega)))
  have KC : Hid (Cur (w.heap.size + 2) (((w.alloc (guB (0, 0, 0, 0))).alloc (snB (0, false, false))).alloc (.cells #[v, .int .i64 0, .int .u64 0] 85)) (w.heap.size + 2) 0) := by
    have := cur_new _ _ (h.later9 B0.out)
    rw [s1] at this
    exact this
  have bC : Below (w.heap.size + 2) ((w.alloc (guB (0, 0, 0, 0))).alloc (snB (0, false, false))) (((w.alloc (guB (0, 0, 0, 0))).alloc (snB (0, false, false))).alloc (.cells #[v, .int .i64 0, .int .u64 0] 85)) := (Below.refl _ _).alloc (by omega) _
  have sC : (((w.alloc (guB (0, 0, 0, 0))).alloc (snB (0, false, false))).alloc (.cells #[v, .int .i64 0, .int .u64 0] 85)).heap.size = w.heap.size + 3 := by rw [World.size_alloc, s1]
  have X1 := hid (X0.out.below bC (by omega)); have F1 := hid (F0.out.below bC (by omega))
  have Z1 := hid (Z0.out.below bC (by omega)); have ZF1 := hid (ZF0.out.below bC (by omega))
  have B1 := hid (B0.out.trans (bC.mono (by omega)))
  obtain ⟨a, len, cap, rfl, hlen, hx⟩ := h
  clear hlen hx b0 b1 bC s0 s1 hg hn hm X0 F0 Z0 ZF0 B0
  go_enter Try.func51, Try.ntmps51
  go_wp2_with fail
  refine (guess_any (w.heap.size + 2) (w.heap.size + 2) 0 _ KC.out (by omega)).mono ?_
  rintro e w1 ⟨x, rfl, c1, g1⟩
  have k1 := only_below g1 (Nat.le_refl _) (by omega)
  have hs1 : w.heap.size + 3 ≤ w1.heap.size := by have := g1.size; omega
  have X2 := hid (X1.out.below k1 (by omega)); have F2 := hid (F1.out.below k1 (by omega))
  have Z2 := hid (Z1.out.below k1 (by omega)); have ZF2 := hid (ZF1.out.below k1 (by omega))
  have B2 := hid (B1.out.trans (k1.mono (by omega))); have C2 := hid c1
  clear c1 g1 k1 sC X1 F1 Z1 ZF1 B1 KC
  go_wp2_with fail
  refine (seen_any (w.heap.size + 2) (w.heap.size + 2) _ _ C2.out (by omega)).mono ?_
  rintro e w2 ⟨y, rfl, c2, g2⟩
  have k2 := only_below g2 (Nat.le_refl _) (by omega)
  have X3 := hid (X2.out.below k2 (by omega)); have F3 := hid (F2.out.below k2 (by omega))
  have Z3 := hid (Z2.out.below k2 (by omega)); have ZF3 := hid (ZF2.out.below k2 (by omega))
  have B3 := hid (B2.out.trans (k2.mono (by omega)))
  clear c2 g2 k2 X2 F2 Z2 ZF2 B2 C2
  have nb : (gput4 w2 w.heap.size x).heap[w.heap.size + 1]? = w2.heap[w.heap.size + 1]? := by
    rw [Below.heap_setCell _ _ _ _ (by show _ ≠ w.heap.size; omega), Below.heap_setCell _ _ _ _ (by show _ ≠ w.heap.size; omega), Below.heap_setCell _ _ _ _ (by show _ ≠ w.heap.size; omega), Below.heap_setCell _ _ _ _ (by show _ ≠ w.heap.size; omega)]
  have Z4 := hid (Z3.out.of_block nb); have ZF4 := hid (ZF3.out.of_block nb)
  have X4 := hid (gput4_same X3.out x)
  have nb2 : (snput3 (gput4 w2 w.heap.size x) (w.heap.size + 1) y).heap[w.heap.size]? = (gput4 w2 w.heap.size x).heap[w.heap.size]? := by
    rw [Below.heap_setCell _ _ _ _ (by show _ ≠ w.heap.size + 1; omega), Below.heap_setCell _ _ _ _ (by show _ ≠ w.heap.size + 1; omega), Below.heap_setCell _ _ _ _ (by show _ ≠ w.heap.size + 1; omega)]
  have X5 := hid (X4.out.of_block nb2)
  have Z5 := hid (snput3_same Z4.out y)
  have B5 := hid (snbelow_put3 (gbelow_put4 B3.out (Nat.le_refl _) x) (show w.heap.size ≤ w.heap.size + 1 by omega) y)
  obtain ⟨x0, x1, x2, x3⟩ := X3.out
  obtain ⟨f0, f1, f2, f3⟩ := F3.out
  obtain ⟨z0, z1, z2⟩ := Z4.out
  obtain ⟨h0, h1, h2⟩ := ZF4.out
  clear nb nb2
  go_wp2
  obtain ⟨e0, e1, e2, e3⟩ := X5.out
  obtain ⟨d0, d1, d2⟩ := Z5.out
  exact bodyPost_ret (v := .tuple #[.agg #[.int .i64 x.1, .int .i64 x.2.1, .int .i64 x.2.2.1, .int .i64 x.2.2.2], .agg #[.int .i64 y.1, .bool y.2.1, .bool y.2.2]]) (by simp [results, Try.results51, go_sem, e0, e1, e2, e3, d0, d1, d2]) rfl ⟨x, y, rfl, B5.out⟩
end Go.Proofs.Yteeaebelknpdjac
