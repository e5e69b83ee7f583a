/-
  spec.DrawTakeBucket: whatever bucket and number it draws. Nothing old is written.
-/
import Derived.Test.YtcieefggijjekacDrawBkt
namespace Go.Proofs.Ytcieefggijjekac
open Go.RowKit

theorem drawTakeB_ret {H : Nat} {W : World} {z : BkEl} {tmps : Array Value} {R : Ending → World → Prop} (x0 x1 x2 n : Int) (hc : BkCells W H 0 z) (ht : tmps[2]?.getD undef = .pointer (some ⟨H, 0, none⟩)) (ht3 : tmps[3]?.getD undef = .int .i64 n) (hR : R (.returned (.tuple #[.agg #[.int .i64 x0, .int .i64 x1, .int .i64 x2], .int .i64 n])) (bput3 W H 0 (x0, x1, x2))) :
    bodyPost Try.prog Try.f15 R .ret { tmps := tmps, defers := [] } (bput3 W H 0 (x0, x1, x2)) := by
  obtain ⟨e0, e1, e2⟩ := bput3_same hc (x0, x1, x2)
  refine bodyPost_ret (v := .tuple #[.agg #[.int .i64 x0, .int .i64 x1, .int .i64 x2], .int .i64 n]) ?_ rfl hR
  simp only [Nat.zero_add] at e1 e2
  simp [results, Try.results15, go_sem, ht, ht3, e0, e1, e2]
set_option maxRecDepth 100000 in
set_option maxHeartbeats 4000000 in
theorem drawTakeB_any (v : Value) (w : World) (h : CodeOk w.heap.size w v) :
    Calls Try.prog 15 #[v] w fun e w' => ∃ (x : BkEl) (n : Int), e = .returned (.tuple #[.agg #[.int .i64 x.1, .int .i64 x.2.1, .int .i64 x.2.2], .int .i64 n]) ∧ Below w.heap.size w w' := by
  have b0 : Below w.heap.size w (w.alloc (.cells #[.int .i64 0, .int .i64 0, .int .i64 0] 33)) := (Below.refl _ _).alloc (Nat.le_refl _) _
  obtain ⟨xc, fc⟩ := balloc3 w (0, 0, 0)
  have X0 := hid xc; have F0 := hid fc
  have B0 := hid b0
  have K := hid (h.later7 b0)
  have KC : Hid (Cur (w.heap.size + 1) ((w.alloc (.cells #[.int .i64 0, .int .i64 0, .int .i64 0] 33)).alloc (.cells #[v, .int .i64 0, .int .u64 0] 56)) (w.heap.size + 1) 0) := by
    have := cur_new _ _ K.out
    rw [World.size_alloc] at this
    exact this
  obtain ⟨a, len, cap, rfl, hlen, hx⟩ := h
  clear hlen hx b0 xc fc
  go_enter Try.func15, Try.ntmps15
  go_wp2_with fail
  refine (bucket_any (w.heap.size + 1) (w.heap.size + 1) 0 _ KC.out (by omega)).mono ?_
  rintro e w1 ⟨x, rfl, hd, c1, g1⟩
  obtain ⟨p, d, q⟩ := x
  simp only at hd
  have hs1 : w.heap.size + 2 ≤ w1.heap.size := by have := g1.size; rw [World.size_alloc, World.size_alloc] at this; exact this
  have b1 : Below (w.heap.size + 1) (w.alloc (.cells #[.int .i64 0, .int .i64 0, .int .i64 0] 33)) w1 := ((Below.refl (w.heap.size + 1) _).alloc (by rw [World.size_alloc]; exact Nat.le_refl _) _).trans (only_below g1 (Nat.le_refl _) (by rw [World.size_alloc, World.size_alloc]; omega))
  have X1 := hid (X0.out.below b1 (Nat.lt_succ_self _)); have F1 := hid (F0.out.below b1 (Nat.lt_succ_self _))
  have B1 := hid (B0.out.trans (b1.mono (Nat.le_succ _)))
  have C1 := hid c1
  clear b1 X0 F0 K B0 KC c1 g1
  obtain ⟨W, hW⟩ : ∃ W, W = w1.alloc (.cells #[.int .i64 p, .int .i64 d, .int .i64 q] 33) := ⟨_, rfl⟩
  have bW : Below w1.heap.size w1 W := by rw [hW]; exact (Below.refl _ _).alloc (Nat.le_refl _) _
  have y : BkCells W w1.heap.size 0 (p, d, q) := by rw [hW]; exact (balloc3 w1 (p, d, q)).1
  have Y := hid (y.of_block (w' := W.drew) rfl)
  have X2 := hid ((X1.out.below bW X1.out.lt).of_block (w' := W.drew) rfl); have F2 := hid ((F1.out.below bW X1.out.lt).of_block (w' := W.drew) rfl)
  have C2 := hid (C1.out.below bW).drew
  have B2 := hid (B1.out.trans (bW.mono B1.out.size)).drew
  have hsW : W.drew.heap.size = w1.heap.size + 1 := by rw [hW]; simp
  have HSW := hid hsW
  have HW := hid hW
  have hw3 : IntKind.i64.wrap (d + 3) = d + 3 := by rw [IntKind.wrap_i64]; omega
  clear hW bW y X1 F1 C1 B1 hsW
  obtain ⟨y0, y1, y2⟩ := Y.out
  simp only [Nat.zero_add] at y1 y2
  go_wp2_with fail
  rw [← HW.out]
  go_region_held3 (fun w' => w'.cell? ⟨w1.heap.size, 0, none⟩ = some (.int .i64 p) ∧ w'.cell? ⟨w1.heap.size, 1, none⟩ = some (.int .i64 d) ∧ w'.cell? ⟨w1.heap.size, 2, none⟩ = some (.int .i64 q))
    (first | (refine ⟨?_, ?_, ?_⟩ <;> assumption) | exact ⟨y0, y1, y2⟩ | (refine ⟨?_, ?_, ?_⟩ <;> (rw [World.cell?_setCell_other _ _ _ _ (by intro e; injection e with e; omega), World.cell?_setCell_other _ _ _ _ (by intro e; injection e with e; omega), World.cell?_setCell_other _ _ _ _ (by intro e; injection e with e; omega)]; assumption)) | go_keep)
    (first
      | (go_at_call 43; refine (pick_any (w.heap.size + 1) (w.heap.size + 1) _ (d + 3) _ C2.out (by omega) (by omega)).mono ?_; rintro e w5 ⟨r5, hr5, rfl, c5, g5⟩; have eb := g5.block w1.heap.size (by rw [HSW.out]; omega) (by intro e; injection e with e; omega); have ea := g5.block w.heap.size (by rw [HSW.out]; omega) (by intro e; injection e with e; omega); have Y5 := hid (Y.out.of_block eb); have X5 := hid (X2.out.of_block ea); have F5 := hid (F2.out.of_block ea); have B5 := hid (B2.out.trans (only_below g5 (Nat.le_succ _) (by rw [HSW.out]; omega))); obtain ⟨u0, u1, u2⟩ := Y5.out; obtain ⟨x0, x1, x2⟩ := X5.out; obtain ⟨f0, f1, f2⟩ := F5.out; simp only [Nat.zero_add] at u1 u2 x1 x2 f1 f2; clear c5 g5 ea eb))
  all_goals
    go_wp2
    refine drawTakeB_ret _ _ _ _ (z := (0, 0, 0)) X5.out rfl rfl ⟨(p, d, q), _, rfl, bbelow_put3 B5.out (Nat.le_refl _) 0 (p, d, q)⟩
end Go.Proofs.Ytcieefggijjekac
