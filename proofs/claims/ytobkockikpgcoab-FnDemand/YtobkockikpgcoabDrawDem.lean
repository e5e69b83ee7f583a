/-
  spec.DrawFirstOverload, spec.DrawDemandIn, spec.DrawAdmitJob: whatever they draw, in memory of its own. Nothing old is written.
-/
import Derived.Test.YtobkockikpgcoabDrawJobs
namespace Go.Proofs.Ytobkockikpgcoab
open Go.RowKit

theorem drawOver_any (v : Value) (w : World) (h : CodeOk w.heap.size w v) :
    Calls Try.prog 4 #[v] w fun e w' => ∃ u, e = .returned u ∧ ∃ xs : List JbEl, xs.length ≤ 42 ∧ JbOwn w.heap.size w'.heap.size w' u xs ∧ Below w.heap.size w w' := by
  have H := hid h
  clear h
  go_enter Try.func4, Try.ntmps4
  go_wp2_with fail
  refine (drawGoodJ_any v w H.out).mono ?_
  rintro e w1 ⟨u1, rfl, xs, hx, o1, b1⟩
  have O1 := hid o1
  have B1 := hid b1
  clear o1 b1
  go_wp2
  go_ret
  exact ⟨_, rfl, xs, hx, O1.out, B1.out⟩

set_option maxHeartbeats 2000000 in
theorem drawDem_any (v : Value) (w : World) (h : CodeOk w.heap.size w v) :
    Calls Try.prog 9 #[v] w fun e w' => ∃ u, ∃ p q : Int, e = .returned (.tuple #[u, .int .i64 p, .int .i64 q]) ∧ ∃ xs : List JbEl, xs.length ≤ 42 ∧ JbOwn w.heap.size w'.heap.size w' u xs ∧ Below w.heap.size w w' := by
  have H := hid (cur_new w v h)
  obtain ⟨a, len, cap, rfl, hlen, hx⟩ := h
  clear hlen hx
  go_enter Try.func9, Try.ntmps9
  go_wp2_with fail
  refine (pick_any w.heap.size w.heap.size 0 20 _ H.out (by omega) (by omega)).mono ?_
  rintro e w1 ⟨r1, hr1, rfl, c1, g1⟩
  have C1 := hid c1; have G1 := hid g1; have hs1 := g1.size; clear c1 g1 H
  rw [World.size_alloc] at hs1
  go_wp2_with fail
  refine (jobs_any w.heap.size w.heap.size (0 + 2) w1 C1.out (by omega)).mono ?_
  rintro e w2 ⟨u2, rfl, xs, hx, o2, c2, g2⟩
  have O2 := hid (jbowns_mono o2 (show w.heap.size + 1 ≤ _ by omega)); have C2 := hid c2; have G2 := hid (only_trans G1.out g2); have hs2 := g2.size; clear o2 c2 g2 C1 G1
  go_wp2_with fail
  refine (pick_any w.heap.size w.heap.size _ 10 w2 C2.out (by omega) (by omega)).mono ?_
  rintro e w3 ⟨r3, hr3, rfl, c3, g3⟩
  have O3 := hid (jbowns_only O2.out g3 (by omega)); have G3 := hid (only_trans G2.out g3); clear c3 g3 C2 G2 O2
  go_wp2
  go_ret3
  exact ⟨_, _, _, rfl, xs, hx, JbOwn.of_owns (jbowns_mono O3.out (by omega)) (by omega), ((Below.refl _ _).alloc (Nat.le_refl _) _).trans (only_below G3.out (Nat.le_refl _) (by simp))⟩

set_option maxHeartbeats 2000000 in
theorem drawAdm_any (v : Value) (w : World) (h : CodeOk w.heap.size w v) :
    Calls Try.prog 11 #[v] w fun e w' => ∃ u, ∃ x : JbEl, e = .returned (.tuple #[u, .agg #[.int .i64 x.1, .int .i64 x.2.1, .int .i64 x.2.2]]) ∧ ∃ xs : List JbEl, xs.length ≤ 42 ∧ JbOwn w.heap.size w'.heap.size w' u xs ∧ Below w.heap.size w w' := by
  obtain ⟨W, hW⟩ : ∃ W, W = w.alloc (.cells #[.int .i64 0, .int .i64 0, .int .i64 0] 34) := ⟨_, rfl⟩
  have bW : Below w.heap.size w W := by rw [hW]; go_grown
  have hsW : W.heap.size = w.heap.size + 1 := by rw [hW]; simp
  obtain ⟨xW, fW⟩ : JbCells W w.heap.size 0 (0, 0, 0) ∧ JbFree W w.heap.size 0 := by rw [hW]; exact jalloc3 w (0, 0, 0)
  have h' : CodeOk W.heap.size W v := by
    obtain ⟨a, len, cap, rfl, hlen, hx⟩ := h
    refine ⟨a, len, cap, rfl, hlen, ?_⟩
    rcases hx with hx | ⟨cb, off, rfl, hlt, hc⟩
    · exact .inl hx
    · exact .inr ⟨cb, off, rfl, by omega, fun i hi => by
        obtain ⟨x, hx, hc⟩ := hc i hi
        exact ⟨x, hx, (bW.cell (p := ⟨cb, off + i, none⟩) hlt).trans hc⟩⟩
  have H2 : Hid (Cur (w.heap.size + 1) (W.alloc (.cells #[v, .int .i64 0, .int .u64 0] 52)) (w.heap.size + 1) 0) := by
    have := cur_new W v h'
    rw [hsW] at this
    exact this
  have BW := hid bW
  have HWW := hid hW
  have XW := hid xW
  have FW := hid fW
  obtain ⟨a, len, cap, rfl, hlen, hx⟩ := h
  clear hlen hx h' bW hW xW fW
  go_enter Try.func11, Try.ntmps11
  go_wp2_with fail
  rw [← HWW.out]
  refine (jobs_any (w.heap.size + 1) (w.heap.size + 1) 0 _ H2.out (by omega)).mono ?_
  rintro e w1 ⟨u1, rfl, xs, hx, o1, c1, g1⟩
  have bA : Below W.heap.size W (W.alloc (.cells #[.slice a len cap, .int .i64 0, .int .u64 0] 52)) := (Below.refl _ _).alloc (Nat.le_refl _) _
  have hA : (W.alloc (.cells #[.slice a len cap, .int .i64 0, .int .u64 0] 52)).heap.size = w.heap.size + 2 := by simp [hsW]
  have hs1 := g1.size
  rw [hA] at hs1 o1
  have B1 : Hid (Below (w.heap.size + 1) W w1) := ⟨g1.os, g1.tape, g1.output, by omega, fun k hk => (g1.block k (by omega) (by intro e; cases e; omega)).trans (bA.block k (by omega))⟩
  have O1 := hid o1
  have C1 := hid c1
  clear c1 g1 bA hA o1 H2
  go_wp2_with fail
  refine (job_any (w.heap.size + 1) (w.heap.size + 1) _ w1 C1.out (by omega)).mono ?_
  rintro e w2 ⟨x, rfl, c2, g2⟩
  have B2 : Hid (Below (w.heap.size + 1) W w2) := B1.out.trans (only_below g2 (Nat.le_refl _) (by omega))
  have O2 := hid (jbowns_only O1.out g2 (by omega))
  have X2 := hid (XW.out.below B2.out (by omega))
  have F2 := hid (FW.out.below B2.out (by omega))
  obtain ⟨x0, x1, x2⟩ := X2.out
  obtain ⟨f0, f1, f2⟩ := F2.out
  have hs2 := g2.size
  clear c2 g2 C1 B1 O1
  go_wp2
  obtain ⟨e0, e1, e2⟩ := jput3_same X2.out x
  have O3 : JbOwn w.heap.size (jput3 w2 w.heap.size 0 x).heap.size (jput3 w2 w.heap.size 0 x) u1 xs := by
    rw [jsize_put3]
    exact ((JbOwn.of_owns O2.out (by omega)).at (fun g h1 _ _ => by rw [Below.heap_setCell _ _ _ _ (by show g ≠ w.heap.size; omega), Below.heap_setCell _ _ _ _ (by show g ≠ w.heap.size; omega), Below.heap_setCell _ _ _ _ (by show g ≠ w.heap.size; omega)])).mono (by omega) (Nat.le_refl _)
  exact bodyPost_ret (v := .tuple #[u1, .agg #[.int .i64 x.1, .int .i64 x.2.1, .int .i64 x.2.2]]) (by simp [results, Try.results11, go_sem, e0, e1, e2]) rfl ⟨u1, x, rfl, xs, hx, O3, jbelow_put3 (BW.out.trans (B2.out.mono (by omega))) (Nat.le_refl _) 0 x⟩
end Go.Proofs.Ytobkockikpgcoab
