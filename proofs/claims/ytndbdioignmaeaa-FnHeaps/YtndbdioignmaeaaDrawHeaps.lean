/-
  The draws of heaps, and of what is pushed and taken out: whatever they are, few, in memory of their own.
-/
import Derived.Test.YtndbdioignmaeaaDrawWorks
import Derived.Test.YtndbdioignmaeaaSMakeFn
namespace Go.Proofs.Ytndbdioignmaeaa
open Go.RowKit

theorem WkOwn.grown {lo hi b : Nat} {w w' : World} {v : Value} {xs : List WkEl} (h : WkOwn lo hi w v xs) (hg : w.grownBy w' (some b)) (hb : b < lo) : WkOwn lo hi w' v xs := h.at fun g h1 _ h3 => hg.block g h3 (by intro e; cases e; omega)
theorem CodeOk.after {w w' : World} {v : Value} (h : CodeOk w.heap.size w v) (hb : Below w.heap.size w w') : CodeOk w'.heap.size w' v := by
  obtain ⟨a, len, cap, rfl, hlen, hx⟩ := h
  refine ⟨a, len, cap, rfl, hlen, ?_⟩
  rcases hx with hx | ⟨cb, off, rfl, hlt, hc⟩
  · exact .inl hx
  · exact .inr ⟨cb, off, rfl, Nat.lt_of_lt_of_le hlt hb.size, fun i hi => by
      obtain ⟨x, hx, hc⟩ := hc i hi
      exact ⟨x, hx, (hb.cell (p := ⟨cb, off + i, none⟩) hlt).trans hc⟩⟩
theorem makeY_same {xs : List WkEl} (h : goodW xs = true) : (makeY xs).length = xs.length := by unfold makeY; rw [if_pos h]; exact makeL_len xs

set_option maxHeartbeats 2000000 in
theorem heap_any (B b N : Nat) (w : World) (h : Cur B w b N) (hN : N ≤ 1152921504606840000) :
    Calls Try.prog 67 #[.pointer (some ⟨b, 0, none⟩)] w fun e w' => ∃ v, e = .returned v ∧ ∃ xs : List WkEl, xs.length ≤ 42 ∧ WkOwn w.heap.size w'.heap.size w' v xs ∧ Cur B w' b (N + 700) ∧ w.grownBy w' (some b) := by
  have hbw := h.lt'
  have H := hid h
  clear h
  go_enter Try.func67, Try.ntmps67
  go_wp2_with fail
  refine (works_any B b N w H.out (by omega)).mono ?_
  rintro e w1 ⟨u1, rfl, xs, hx, o1, c1, g1⟩
  have O1 := hid (WkOwn.of_owns o1 (by omega)); have C1 := hid c1; have G1 := hid g1
  have R1 := hid O1.out.reads
  clear o1 c1 g1 H
  obtain ⟨a1, k1, rfl, _, _⟩ := R1.out
  obtain ⟨t, ht⟩ : ∃ t, goodW xs = t := ⟨_, rfl⟩
  have HT := hid ht
  have MS : Hid (Calls Try.prog 41 #[.slice a1 xs.length k1] w1 fun e w' => ∃ v', e = .returned (.tuple #[v', .bool t]) ∧ WkOwn w1.heap.size w'.heap.size w' v' (makeY xs) ∧ Below w1.heap.size w1 w') := by rw [← ht]; exact sMakeHeap_any _ xs w1 R1.out
  clear ht
  go_wp2_with fail
  refine MS.out.mono ?_
  rintro e w2 ⟨v2, rfl, o2, b2⟩
  have hs2 := b2.size
  have hs1 := G1.out.size
  have C2 := hid (C1.out.below b2)
  have G2 := hid (only_then G1.out (b2.mono hs1))
  have P2 : Hid (WkOwn w.heap.size w2.heap.size w2 (.slice a1 xs.length k1) xs) := (O1.out.below b2).mono (Nat.le_refl _) hs2
  have O2 : Hid (WkOwn w.heap.size w2.heap.size w2 v2 (makeY xs)) := o2.mono hs1 (Nat.le_refl _)
  clear o2 b2 C1 G1 O1 R1 MS
  cases t
  · go_wp2
    go_ret
    exact ⟨_, rfl, xs, hx, P2.out, C2.out.mono (by omega), G2.out⟩
  · go_wp2_with fail
    refine (one_any B b (N + 600) 12 w2 C2.out (by omega) (by omega)).mono ?_
    rintro e w3 ⟨t3, rfl, c3, g3⟩
    have hs3 := g3.size
    have C3 := hid c3
    have P3 := hid ((P2.out.grown g3 hbw).mono (Nat.le_refl _) hs3)
    have O3 := hid ((O2.out.grown g3 hbw).mono (Nat.le_refl _) hs3)
    have G3 := hid (only_trans G2.out g3)
    clear c3 g3 C2 G2 P2 O2
    cases t3
    · go_wp2
      go_ret
      exact ⟨_, rfl, makeY xs, by rw [makeY_same HT.out]; exact hx, O3.out, C3.out.mono (by omega), G3.out⟩
    · go_wp2
      go_ret
      exact ⟨_, rfl, xs, hx, P3.out, C3.out.mono (by omega), G3.out⟩
theorem drawIsHeap_any (v : Value) (w : World) (h : CodeOk w.heap.size w v) :
    Calls Try.prog 86 #[v] w fun e w' => ∃ u, e = .returned u ∧ ∃ xs : List WkEl, xs.length ≤ 42 ∧ WkReads w' u xs ∧ Below w.heap.size w w' := by
  have H := hid (cur_new w v h)
  obtain ⟨a, len, cap, rfl, hlen, hx⟩ := h
  clear hlen hx
  go_enter Try.func86, Try.ntmps86
  go_wp2_with fail
  refine (heap_any w.heap.size w.heap.size 0 _ H.out (by omega)).mono ?_
  rintro e w1 ⟨u1, rfl, xs, hx, o1, c1, g1⟩
  have R1 := hid o1.reads; have G1 := hid g1; clear o1 c1 g1 H
  go_wp2
  go_ret
  exact ⟨_, rfl, xs, hx, R1.out, ((Below.refl _ _).alloc (Nat.le_refl _) _).trans (only_below G1.out (Nat.le_refl _) (by simp))⟩
theorem drawPop_any (v : Value) (w : World) (h : CodeOk w.heap.size w v) :
    Calls Try.prog 36 #[v] w fun e w' => ∃ u, e = .returned u ∧ ∃ xs : List WkEl, xs.length ≤ 42 ∧ WkReads w' u xs ∧ Below w.heap.size w w' := by
  have D := hid (drawIsHeap_any v w h)
  obtain ⟨a, len, cap, rfl, hlen, hx⟩ := h
  clear hlen hx
  go_enter Try.func36, Try.ntmps36
  go_wp2_with fail
  refine D.out.mono ?_
  rintro e w1 ⟨u1, rfl, xs, hx, r1, b1⟩
  have R1 := hid r1; have B1 := hid b1; clear r1 b1 D
  go_wp2
  go_ret
  exact ⟨_, rfl, xs, hx, R1.out, B1.out⟩
theorem drawRemove_any (v : Value) (w : World) (h : CodeOk w.heap.size w v) :
    Calls Try.prog 33 #[v] w fun e w' => ∃ u k, e = .returned (.tuple #[u, .int .i64 k]) ∧ ∃ xs : List WkEl, xs.length ≤ 42 ∧ WkReads w' u xs ∧ Below w.heap.size w w' := by
  have H := hid (cur_new w v h)
  obtain ⟨a, len, cap, rfl, hlen, hx⟩ := h
  clear hlen hx
  go_enter Try.func33, Try.ntmps33
  go_wp2_with fail
  refine (heap_any w.heap.size w.heap.size 0 _ H.out (by omega)).mono ?_
  rintro e w1 ⟨u1, rfl, xs, hx, o1, c1, g1⟩
  have O1 := hid o1; have G1 := hid g1; have C1 := hid c1; clear o1 c1 g1 H
  have R1 := hid O1.out.reads
  obtain ⟨a1, k1, rfl, _, _⟩ := R1.out
  clear R1
  go_wp2_with fail
  refine (pick_any w.heap.size w.heap.size (0 + 700) ((xs.length : Int) + 2) w1 C1.out (by omega) (by omega)).mono ?_
  rintro e w2 ⟨r2, hr2, rfl, c2, g2⟩
  have R2 := hid (O1.out.grown g2 (by simp)).reads
  have G2 := hid (only_trans G1.out g2)
  clear c2 g2 C1 O1 G1
  go_wp2
  go_ret2
  exact ⟨_, _, rfl, xs, hx, R2.out, ((Below.refl _ _).alloc (Nat.le_refl _) _).trans (only_below G2.out (Nat.le_refl _) (by simp))⟩
set_option maxHeartbeats 2000000 in
theorem drawPush_any (v : Value) (w : World) (h : CodeOk w.heap.size w v) :
    Calls Try.prog 25 #[v] w fun e w' => ∃ (u : Value) (x : WkEl), e = .returned (.tuple #[u, .agg #[.int .i64 x.1, .int .i64 x.2.1, .int .i64 x.2.2]]) ∧ ∃ xs : List WkEl, xs.length ≤ 42 ∧ WkReads w' u xs ∧ Below w.heap.size w w' := by
  obtain ⟨W, hW⟩ : ∃ W, W = w.alloc (.cells #[.int .i64 0, .int .i64 0, .int .i64 0] 48) := ⟨_, rfl⟩
  have bW : Below w.heap.size w W := by rw [hW]; go_grown
  have hsW : W.heap.size = w.heap.size + 1 := by rw [hW]; simp
  have XW : Hid (WkCells W w.heap.size 0 (0, 0, 0) ∧ WkFree W w.heap.size 0) := by
    obtain ⟨h1, h2⟩ := alloc3 w (0, 0, 0)
    rw [hW]
    exact ⟨h1, h2⟩
  have h' : CodeOk W.heap.size W v := by
    obtain ⟨a, len, cap, rfl, hlen, hx⟩ := h
    refine ⟨a, len, cap, rfl, hlen, ?_⟩
    rcases hx with hx | ⟨cb, off, rfl, hlt, hc⟩
    · exact .inl hx
    · exact .inr ⟨cb, off, rfl, by omega, fun i hi => by
        obtain ⟨x, hx, hc⟩ := hc i hi
        exact ⟨x, hx, (bW.cell (p := ⟨cb, off + i, none⟩) hlt).trans hc⟩⟩
  have H := hid (cur_new W v h')
  have BW := hid bW
  have HWW := hid hW
  have H2 : Hid (Cur (w.heap.size + 1) (W.alloc (.cells #[v, .int .i64 0, .int .u64 0] 70)) (w.heap.size + 1) 0) := by
    have := H.out
    rw [hsW] at this
    exact this
  have HSZ := hid hsW
  obtain ⟨a, len, cap, rfl, hlen, hx⟩ := h
  clear hlen hx h' bW hW hsW H
  go_enter Try.func25, Try.ntmps25
  go_wp2_with fail
  rw [← HWW.out]
  refine (heap_any (w.heap.size + 1) (w.heap.size + 1) 0 _ H2.out (by omega)).mono ?_
  rintro e w1 ⟨u1, rfl, xs, hx, o1, c1, g1⟩
  have C1 := hid c1
  have hA : (W.alloc (.cells #[.slice a len cap, .int .i64 0, .int .u64 0] 70)).heap.size = w.heap.size + 2 := by simp [HSZ.out]
  have O1 : Hid (WkOwn (w.heap.size + 2) w1.heap.size w1 u1 xs) := by rw [hA] at o1; exact o1
  have bA : Below W.heap.size W (W.alloc (.cells #[.slice a len cap, .int .i64 0, .int .u64 0] 70)) := (Below.refl _ _).alloc (Nat.le_refl _) _
  have e1 : ∀ k, k < w.heap.size + 1 → w1.heap[k]? = W.heap[k]? := fun k hk => (g1.block k (by omega) (by intro e; cases e; omega)).trans (bA.block k (by rw [HSZ.out]; exact hk))
  have hs1 := g1.size
  rw [hA] at hs1
  have B1 : Hid (Below (w.heap.size + 1) W w1) := ⟨g1.os, g1.tape, g1.output, by rw [HSZ.out]; omega, fun k hk => e1 k hk⟩
  clear c1 g1 o1 bA hA H2 e1
  have R1 := hid O1.out.reads
  obtain ⟨a1, k1, rfl, _, _⟩ := R1.out
  clear R1
  go_wp2_with fail
  refine (work_any (w.heap.size + 1) (w.heap.size + 1) _ w1 C1.out (by omega)).mono ?_
  rintro e w2 ⟨x, rfl, c2, g2⟩
  have B2 : Hid (Below (w.heap.size + 1) W w2) := B1.out.trans (only_below g2 (Nat.le_refl _) (by omega))
  have O2 : Hid (WkOwn (w.heap.size + 2) w1.heap.size w2 (.slice a1 xs.length k1) xs) := O1.out.grown g2 (by omega)
  have X2 := hid (XW.out.1.below B2.out (by omega))
  have F2 := hid (XW.out.2.below B2.out (by omega))
  obtain ⟨x0, x1, x2⟩ := X2.out
  obtain ⟨f0, f1, f2⟩ := F2.out
  have hs2 := g2.size
  clear c2 g2 C1 B1
  go_wp2
  have R3 : WkReads (put3 w2 w.heap.size 0 x) (.slice a1 xs.length k1) xs := (O2.out.at fun g h1 _ _ => by rw [Below.heap_setCell _ _ _ _ (by show g ≠ w.heap.size; omega), Below.heap_setCell _ _ _ _ (by show g ≠ w.heap.size; omega), Below.heap_setCell _ _ _ _ (by show g ≠ w.heap.size; omega)]).reads
  obtain ⟨e0, e1, e2⟩ := put3_same X2.out x
  exact bodyPost_ret (v := .tuple #[.slice a1 xs.length k1, .agg #[.int .i64 x.1, .int .i64 x.2.1, .int .i64 x.2.2]]) (by simp [results, Try.results25, go_sem, e0, e1, e2]) rfl ⟨_, x, rfl, xs, hx, R3, below_put3 (BW.out.trans (B2.out.mono (by omega))) (Nat.le_refl _) 0 x⟩
end Go.Proofs.Ytndbdioignmaeaa
