/-
  The draw of two spans: whatever they are; nothing old is written.
-/
import Derived.Test.YtobkockikpgcoaaDoorDrawSpans
import Derived.Deep.DeepCutAuto
namespace Go.Proofs.YtobkockikpgcoaaDoor
open Go.RowKit
set_option maxRecDepth 100000

theorem XBox.part {w : World} {H : Nat} {p q : Int} (h : XBox w H p q) (q' : Int) : XBox (w.setCell ⟨H, 1, none⟩ (.int .i64 q')) H p q' := by
  refine ⟨⟨?_, ?_⟩, by simpa using h.2.1, by simpa using h.2.2⟩
  · rw [World.cell?_setCell_other _ _ _ _ (by simp)]; exact h.1.1
  · rw [World.cell?_setCell_same _ _ _ h.1.2]
theorem XBox.aside {w : World} {H K i : Nat} {p q : Int} {v : Value} (h : XBox w H p q) (hk : H ≠ K) : XBox (w.setCell ⟨K, i, none⟩ v) H p q := by
  have e : (w.setCell ⟨K, i, none⟩ v).heap[H]? = w.heap[H]? := Below.heap_setCell _ _ _ _ hk
  refine ⟨⟨?_, ?_⟩, ?_, ?_⟩
  · rw [World.cell?_of_block (a := ⟨H, 0, none⟩) e]; exact h.1.1
  · rw [World.cell?_of_block (a := ⟨H, 1, none⟩) e]; exact h.1.2
  · rw [World.frozen?_of_block (a := ⟨H, 0, none⟩) e]; exact h.2.1
  · rw [World.frozen?_of_block (a := ⟨H, 1, none⟩) e]; exact h.2.2
abbrev put22 (W : World) (H : Nat) (p q r s : Int) : World := (((W.setCell ⟨H, 0, none⟩ (.int .i64 p)).setCell ⟨H, 1, none⟩ (.int .i64 q)).setCell ⟨H + 1, 0, none⟩ (.int .i64 r)).setCell ⟨H + 1, 1, none⟩ (.int .i64 s)
theorem rel_ret {H : Nat} {W : World} {tmps : Array Value} {R : Ending → World → Prop} (p q r s : Int) {x0 x1 y0 y1 : Int} (hx : XBox W H x0 x1) (hy : XBox W (H + 1) y0 y1) (h2 : tmps[2]?.getD undef = .pointer (some ⟨H, 0, none⟩)) (h3 : tmps[3]?.getD undef = .pointer (some ⟨H + 1, 0, none⟩))
    (hR : R (.returned (.tuple #[.agg #[.int .i64 p, .int .i64 q], .agg #[.int .i64 r, .int .i64 s]])) (put22 W H p q r s)) :
    bodyPost Tryd.prog Tryd.f30 R .ret { tmps := tmps, defers := [] } (put22 W H p q r s) := by
  have z1 : XBox (put22 W H p q r s) H p q := ((hx.set p q).aside (by omega)).aside (by omega)
  have z2 : XBox (put22 W H p q r s) (H + 1) r s := ((hy.aside (K := H) (by omega)).aside (K := H) (by omega)).set r s
  obtain ⟨⟨e0, e1⟩, _, _⟩ := z1
  obtain ⟨⟨e2, e3⟩, _, _⟩ := z2
  refine bodyPost_ret (v := .tuple #[.agg #[.int .i64 p, .int .i64 q], .agg #[.int .i64 r, .int .i64 s]]) ?_ rfl hR
  simp [results, Tryd.results30, go_sem, h2, h3, e0, e1, e2, e3]
theorem below_put22 {n H : Nat} {w W : World} (h : Below n w W) (hn : n ≤ H) (p q r s : Int) : Below n w (put22 W H p q r s) := (((h.setCell (p := ⟨H, 0, none⟩) hn _).setCell (p := ⟨H, 1, none⟩) hn _).setCell (p := ⟨H + 1, 0, none⟩) (by show n ≤ H + 1; omega) _).setCell (p := ⟨H + 1, 1, none⟩) (by show n ≤ H + 1; omega) _
set_option maxHeartbeats 4000000 in
theorem drawRel_any (v : Value) (w : World) (h : CodeOk w.heap.size w v) :
    Calls Tryd.prog 30 #[v] w fun e w' => ∃ p q r s : Int, e = .returned (.tuple #[.agg #[.int .i64 p, .int .i64 q], .agg #[.int .i64 r, .int .i64 s]]) ∧ Below w.heap.size w w' := by
  obtain ⟨W, hW⟩ : ∃ W, W = (w.alloc (.cells #[.int .i64 0, .int .i64 0] 47)).alloc (.cells #[.int .i64 0, .int .i64 0] 47) := ⟨_, rfl⟩
  have bW : Below w.heap.size w W := by rw [hW]; go_grown
  have hsW : W.heap.size = w.heap.size + 2 := by rw [hW]; simp
  have XW : Hid (XBox W w.heap.size 0 0) := by rw [hW]; exact (XBox.new w 0 0 _).below ((Below.refl _ _).alloc (by simp) _)
  have YW : Hid (XBox W (w.heap.size + 1) 0 0) := by
    have := XBox.new (w.alloc (.cells #[.int .i64 0, .int .i64 0] 47)) 0 0 47
    rw [World.size_alloc] at this
    rw [hW]
    exact this
  have h' : CodeOk W.heap.size W v := by
    obtain ⟨a, len, cap, rfl, hlen, hx⟩ := h
    refine ⟨a, len, cap, rfl, hlen, ?_⟩
    rcases hx with hx | ⟨cb, off, rfl, hlt, hc⟩
    · exact .inl hx
    · exact .inr ⟨cb, off, rfl, by omega, fun i hi => by
        obtain ⟨x, hx, hc⟩ := hc i hi
        exact ⟨x, hx, (bW.cell (p := ⟨cb, off + i, none⟩) hlt).trans hc⟩⟩
  have H := hid (cur_new W v h')
  have BW := hid bW
  have HWW := hid hW
  have H2 : Hid (Cur (w.heap.size + 1 + 1) (W.alloc (.cells #[v, .int .i64 0, .int .u64 0] 70)) (w.heap.size + 1 + 1) 0) := by
    have := H.out
    rw [hsW] at this
    exact this
  have HSZ := hid hsW
  obtain ⟨a, len, cap, rfl, hlen, hx⟩ := h
  clear hlen hx h' bW hW hsW H
  go_enter Tryd.func30, Tryd.ntmps30
  go_wp2_with fail
  rw [← HWW.out]
  refine (pick_any (w.heap.size + 1 + 1) (w.heap.size + 1 + 1) 0 5 _ H2.out (by omega) (by omega)).mono ?_
  rintro e w1 ⟨r1, hr1, rfl, c1, g1⟩
  have hA : (W.alloc (.cells #[.slice a len cap, .int .i64 0, .int .u64 0] 70)).heap.size = w.heap.size + 3 := by simp [HSZ.out]
  have hs1 := g1.size
  rw [hA] at hs1
  have bA : Below W.heap.size W (W.alloc (.cells #[.slice a len cap, .int .i64 0, .int .u64 0] 70)) := (Below.refl _ _).alloc (Nat.le_refl _) _
  have B1 : Hid (Below (w.heap.size + 2) W w1) := ⟨g1.os, g1.tape, g1.output, by rw [HSZ.out]; omega, fun k hk => (g1.block k (by omega) (by intro e; cases e; omega)).trans (bA.block k (by rw [HSZ.out]; exact hk))⟩
  obtain ⟨A, hAA⟩ : ∃ A, A = w1.alloc (.cells #[.int .i64 r1, .int .i64 0] 47) := ⟨_, rfl⟩
  have bAA : Below w1.heap.size w1 A := by rw [hAA]; exact (Below.refl _ _).alloc (Nat.le_refl _) _
  have CA := hid (c1.below bAA)
  have PA : Hid (XBox A w1.heap.size r1 0) := by rw [hAA]; exact XBox.new w1 _ _ _
  have BA : Hid (Below (w.heap.size + 2) W A) := B1.out.trans (bAA.mono (by omega))
  have HAA := hid hAA
  have hsA : w1.heap.size < A.heap.size := PA.out.lt
  have q0 := PA.out.1.1
  have q1 := PA.out.1.2
  clear c1 g1 bA hA H2 B1 hAA bAA
  go_upto_region 3 with fail
  rw [← HAA.out]
  go_region_held3 (fun w' => w'.cell? ⟨w1.heap.size, 0, none⟩ = some (.int .i64 r1)) (first | assumption | (rw [World.cell?_setCell_other _ _ _ _ (by simp)]; assumption) | go_keep)
    (first | (go_at_call 49; refine (pick_any (w.heap.size + 1 + 1) (w.heap.size + 1 + 1) _ 3 _ CA.out.drew (by omega) (by omega)).mono ?_; rintro e w2 ⟨r2, hr2, rfl, c2, g2⟩; obtain ⟨⟨d0, d1⟩, f0, f1⟩ := (PA.out.below (Below.refl _ _).drew).only g2 (by omega)))
  have P2 := (PA.out.below (Below.refl _ _).drew).only g2 (by omega)
  have hs2 : A.heap.size ≤ w2.heap.size := g2.size
  have B2 : Below (w.heap.size + 2) W w2 := BA.out.drew.trans (only_below g2 (by omega) (by show _ ≤ A.heap.size; omega))
  obtain ⟨z, hz⟩ : ∃ z : Int, z = IntKind.i64.wrap (IntKind.i64.wrap ((r1 : Int) + 1) + (r2 : Int)) := ⟨_, rfl⟩
  rw [← hz]
  obtain ⟨w3, hw3⟩ : ∃ w3, w3 = w2.setCell ⟨w1.heap.size, 1, none⟩ (.int .i64 z) := ⟨_, rfl⟩
  rw [← hw3]
  have hb3 : Below (w.heap.size + 3) w2 w3 := by rw [hw3]; exact (Below.refl _ _).setCell (by show _ ≤ w1.heap.size; omega) _
  have C3 := hid (c2.under (show w.heap.size + 1 + 1 < w.heap.size + 3 by omega) (by omega) hb3)
  have P3 : Hid (XBox w3 w1.heap.size r1 z) := by rw [hw3]; exact P2.part z
  have B3 : Hid (Below (w.heap.size + 2) W w3) := B2.trans (hb3.mono (by omega))
  have hs3 : w.heap.size + 3 ≤ w3.heap.size := by have := P3.out.lt; omega
  clear c2 g2 d0 d1 f0 f1 P2 B2 hz hw3 hb3 q0 q1 hs2 CA PA BA HAA hsA
  go_wp2_with fail
  refine (pick_any (w.heap.size + 1 + 1) (w.heap.size + 1 + 1) _ 5 w3 C3.out (by omega) (by omega)).mono ?_
  rintro e w4 ⟨r4, hr4, rfl, c4, g4⟩
  have hs4 := g4.size
  have B4 : Below (w.heap.size + 2) W w4 := B3.out.trans (only_below g4 (by omega) (by omega))
  have P4 := P3.out.only g4 (by omega)
  obtain ⟨D, hDD⟩ : ∃ D, D = w4.alloc (.cells #[.int .i64 r4, .int .i64 0] 47) := ⟨_, rfl⟩
  have bDD : Below w4.heap.size w4 D := by rw [hDD]; exact (Below.refl _ _).alloc (Nat.le_refl _) _
  have CD := hid (c4.below bDD)
  have PD : Hid (XBox D w4.heap.size r4 0) := by rw [hDD]; exact XBox.new w4 _ _ _
  have PA : Hid (XBox D w1.heap.size r1 z) := P4.below (bDD.mono (by have := P4.lt; omega))
  have BD : Hid (Below (w.heap.size + 2) W D) := B4.trans (bDD.mono (by omega))
  have HDD := hid hDD
  have hsD : w4.heap.size < D.heap.size := PD.out.lt
  have hne : w1.heap.size < w4.heap.size := P4.lt
  have q0 := PD.out.1.1
  have q1 := PD.out.1.2
  clear c4 g4 B4 P4 hDD bDD C3 P3 B3
  go_upto_region 5 with fail
  rw [← HDD.out]
  go_region_held3 (fun w' => w'.cell? ⟨w4.heap.size, 0, none⟩ = some (.int .i64 r4)) (first | assumption | (rw [World.cell?_setCell_other _ _ _ _ (by simp)]; assumption) | go_keep)
    (first | (go_at_call 49; refine (pick_any (w.heap.size + 1 + 1) (w.heap.size + 1 + 1) _ 3 _ CD.out.drew (by omega) (by omega)).mono ?_; rintro e w5 ⟨r5, hr5, rfl, c5, g5⟩; obtain ⟨⟨d0, d1⟩, f0, f1⟩ := (PD.out.below (Below.refl _ _).drew).only g5 (by omega)))
  have P5 := (PD.out.below (Below.refl _ _).drew).only g5 (by omega)
  have A5 := (PA.out.below (Below.refl _ _).drew).only g5 (by omega)
  have B5 : Below (w.heap.size + 2) W w5 := BD.out.drew.trans (only_below g5 (by omega) (by show _ ≤ D.heap.size; omega))
  obtain ⟨y, hy⟩ : ∃ y : Int, y = IntKind.i64.wrap (IntKind.i64.wrap ((r4 : Int) + 1) + (r5 : Int)) := ⟨_, rfl⟩
  rw [← hy]
  obtain ⟨w6, hw6⟩ : ∃ w6, w6 = w5.setCell ⟨w4.heap.size, 1, none⟩ (.int .i64 y) := ⟨_, rfl⟩
  rw [← hw6]
  have hb6 : Below (w.heap.size + 3) w5 w6 := by rw [hw6]; exact (Below.refl _ _).setCell (by show _ ≤ w4.heap.size; omega) _
  have C6 := hid (c5.under (show w.heap.size + 1 + 1 < w.heap.size + 3 by omega) (by omega) hb6)
  have P6 : Hid (XBox w6 w4.heap.size r4 y) := by rw [hw6]; exact P5.part y
  have A6 : Hid (XBox w6 w1.heap.size r1 z) := by rw [hw6]; exact A5.aside (by omega)
  have B6 : Hid (Below (w.heap.size + 2) W w6) := B5.trans (hb6.mono (by omega))
  clear c5 g5 d0 d1 f0 f1 P5 A5 B5 hy hw6 hb6 q0 q1 CD PA PD BD HDD hsD
  go_wp2_with fail
  refine (one_any (w.heap.size + 1 + 1) (w.heap.size + 1 + 1) _ 20 w6 C6.out (by omega) (by omega)).mono ?_
  rintro e w7 ⟨t7, rfl, c7, g7⟩
  have C7 := hid c7
  have P7 := hid (P6.out.only g7 (by omega))
  have A7 := hid (A6.out.only g7 (by omega))
  have B7 : Hid (Below (w.heap.size + 2) W w7) := B6.out.trans (only_below g7 (by omega) (by have := P6.out.lt; omega))
  have X7 := hid (XW.out.below (B7.out.mono (by omega)))
  have Y7 := hid (YW.out.below (B7.out.mono (by omega)))
  have hs7 : w4.heap.size < w7.heap.size := P7.out.lt
  have n1 : w.heap.size ≠ w1.heap.size := by omega
  have n2 : w.heap.size ≠ w4.heap.size := by omega
  have n3 : w.heap.size + 1 ≠ w1.heap.size := by omega
  have n4 : w.heap.size + 1 ≠ w4.heap.size := by omega
  clear c7 g7 C6 P6 A6 B6
  cases t7
  · obtain ⟨⟨x0, x1⟩, xf0, xf1⟩ := X7.out
    obtain ⟨⟨y0, y1⟩, yf0, yf1⟩ := Y7.out
    obtain ⟨⟨a0, a1⟩, _, _⟩ := A7.out
    obtain ⟨⟨b0, b1⟩, _, _⟩ := P7.out
    go_wp2_with fail
    go_big_region
    all_goals go_wp2
    all_goals exact rel_ret _ _ _ _ (W := w7.drew) (show XBox w7.drew w.heap.size 0 0 from X7.out) (show XBox w7.drew (w.heap.size + 1) 0 0 from Y7.out) rfl rfl ⟨_, _, _, _, rfl, below_put22 (BW.out.trans (B7.out.drew.mono (by omega))) (Nat.le_refl _) _ _ _ _⟩
  · obtain ⟨⟨x0, x1⟩, xf0, xf1⟩ := X7.out
    obtain ⟨⟨y0, y1⟩, yf0, yf1⟩ := Y7.out
    obtain ⟨⟨b0, b1⟩, _, _⟩ := P7.out
    go_wp2_with fail
    go_region_with (go_at_call 60; refine (span_any (w.heap.size + 1 + 1) (w.heap.size + 1 + 1) _ _ C7.out.drew (by omega)).mono ?_; rintro e w8 ⟨p8, q8, rfl, c8, g8⟩; obtain ⟨⟨x0, x1⟩, xf0, xf1⟩ := XBox.only (w := w7.drew) X7.out g8 (by omega); obtain ⟨⟨y0, y1⟩, yf0, yf1⟩ := XBox.only (w := w7.drew) Y7.out g8 (by omega); obtain ⟨⟨b0, b1⟩, _, _⟩ := XBox.only (w := w7.drew) P7.out g8 (by omega); have X8 := hid (XBox.only (w := w7.drew) X7.out g8 (by omega)); have Y8 := hid (XBox.only (w := w7.drew) Y7.out g8 (by omega)); have B8 : Hid (Below (w.heap.size + 2) W w8) := B7.out.drew.trans (only_below g8 (by omega) (by show _ ≤ w7.heap.size; omega)); clear c8 g8)
    all_goals go_wp2
    all_goals exact rel_ret _ _ _ _ (W := w8) X8.out Y8.out rfl rfl ⟨_, _, _, _, rfl, below_put22 (BW.out.trans (B8.out.mono (by omega))) (Nat.le_refl _) _ _ _ _⟩
end Go.Proofs.YtobkockikpgcoaaDoor
