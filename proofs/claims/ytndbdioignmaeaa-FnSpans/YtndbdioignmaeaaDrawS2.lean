/-
  spec.DrawJoinSpans, DrawMissingIn, DrawAddSpan: whatever they are, few, in new memory; nothing old is written.
-/
import Derived.Test.YtndbdioignmaeaaDrawSpans
namespace Go.Proofs.Ytndbdioignmaeaa
open Go.RowKit
set_option maxRecDepth 100000

theorem drawJoin_any (v : Value) (w : World) (h : CodeOk w.heap.size w v) :
    Calls Try.prog 6 #[v] w fun e w' => ∃ a b, e = .returned (.tuple #[a, b]) ∧ ∃ xs ys : List Sp, (xs.length ≤ 30 ∧ ys.length ≤ 30) ∧ SReads w' a xs ∧ SReads w' b ys ∧ Below w.heap.size w w' := by
  have H := hid (cur_new w v h)
  obtain ⟨a, len, cap, rfl, hlen, hx⟩ := h
  clear hlen hx
  go_enter Try.func6, Try.ntmps6
  go_wp2_with fail
  refine (spans_any w.heap.size w.heap.size 0 _ H.out (by omega)).mono ?_
  rintro e w1 ⟨u1, rfl, xs, hx, o1, c1, g1⟩
  have O1 := hid o1; have C1 := hid c1; have G1 := hid g1; clear o1 c1 g1 H
  go_wp2_with fail
  refine (spans_any w.heap.size w.heap.size _ w1 C1.out (by omega)).mono ?_
  rintro e w2 ⟨u2, rfl, ys, hy, o2, c2, g2⟩
  have O2 := hid o2; have O1 := hid (O1.out.only g2 (by simp)); have G2 := hid (only_trans G1.out g2); clear o2 c2 g2 C1 G1
  go_wp2
  go_ret2
  exact ⟨_, _, rfl, xs, ys, ⟨hx, hy⟩, O1.out.reads, O2.out.reads, ((Below.refl _ _).alloc (Nat.le_refl _) _).trans (only_below G2.out (Nat.le_refl _) (by simp))⟩

theorem drawMissing_any (v : Value) (w : World) (h : CodeOk w.heap.size w v) :
    Calls Try.prog 17 #[v] w fun e w' => ∃ (a : Value) (n : Int), e = .returned (.tuple #[a, .int .i64 n]) ∧ ∃ xs : List Sp, xs.length ≤ 30 ∧ SReads w' a xs ∧ Below w.heap.size w w' := by
  have H := hid (cur_new w v h)
  obtain ⟨a, len, cap, rfl, hlen, hx⟩ := h
  clear hlen hx
  go_enter Try.func17, Try.ntmps17
  go_wp2_with fail
  refine (spans_any w.heap.size w.heap.size 0 _ H.out (by omega)).mono ?_
  rintro e w1 ⟨u1, rfl, xs, hx, o1, c1, g1⟩
  have hl1 := c1.lt
  have O1 := hid o1; have C1 := hid c1; have G1 := hid g1; clear o1 c1 g1 H
  go_wp2_with fail
  refine (among_any w.heap.size w.heap.size _ w1.heap.size 7 7 _ (C1.out.below ((Below.refl _ _).alloc (Nat.le_refl _) _)) (by omega) (by omega) (lit_new w1 [-1, 0, 5, 20, 40, 1000000, 1000001] _) (by omega) (by omega)).mono ?_
  rintro e w2 ⟨z, rfl, c2, g2⟩
  have O1 := hid ((O1.out.below ((Below.refl _ _).alloc (Nat.le_refl _) _)).only g2 (by simp)); have G2 := hid (only_trans (only_trans G1.out (World.grownBy_alloc _ _ _)) g2); clear c2 g2 C1 G1
  go_wp2
  go_ret2
  exact ⟨_, _, rfl, xs, hx, O1.out.reads, ((Below.refl _ _).alloc (Nat.le_refl _) _).trans (only_below G2.out (Nat.le_refl _) (by simp))⟩

set_option maxHeartbeats 1000000 in
theorem drawAdd_any (v : Value) (w : World) (h : CodeOk w.heap.size w v) :
    Calls Try.prog 20 #[v] w fun e w' => ∃ (a : Value) (p q : Int), e = .returned (.tuple #[a, .agg #[.int .i64 p, .int .i64 q]]) ∧ ∃ xs : List Sp, xs.length ≤ 30 ∧ SReads w' a xs ∧ Below w.heap.size w w' := by
  have h' : CodeOk (w.alloc (.cells #[.int .i64 0, .int .i64 0] 39)).heap.size (w.alloc (.cells #[.int .i64 0, .int .i64 0] 39)) v := by
    obtain ⟨a, len, cap, rfl, hlen, hx⟩ := h
    refine ⟨a, len, cap, rfl, hlen, ?_⟩
    rcases hx with hx | ⟨cb, off, rfl, hlt, hc⟩
    · exact .inl hx
    · refine .inr ⟨cb, off, rfl, by simp; omega, fun i hi => ?_⟩
      obtain ⟨x, hx, hc⟩ := hc i hi
      exact ⟨x, hx, (((Below.refl w.heap.size w).alloc (Nat.le_refl _) _).cell (p := ⟨cb, off + i, none⟩) hlt).trans hc⟩
  have H : Hid (Cur (w.heap.size + 1) ((w.alloc (.cells #[.int .i64 0, .int .i64 0] 39)).alloc (.cells #[v, .int .i64 0, .int .u64 0] 70)) (w.heap.size + 1) 0) := by have := cur_new _ v h'; rw [World.size_alloc] at this; exact this
  obtain ⟨a, len, cap, rfl, hlen, hx⟩ := h
  clear hlen hx h'
  go_enter Try.func20, Try.ntmps20
  go_wp2_with fail
  refine (spans_any (w.heap.size + 1) (w.heap.size + 1) 0 _ H.out (by omega)).mono ?_
  rintro e w1 ⟨u1, rfl, xs, hx, o1, c1, g1⟩
  have hl1 := c1.lt
  have X1 := hid (((XBox.new w 0 0 39).below ((Below.refl _ _).alloc (by simp) _)).only g1 (by omega))
  have O1 := hid o1; have C1 := hid c1; have G1 := hid g1; clear o1 c1 g1 H
  go_wp2_with fail
  refine (span_any (w.heap.size + 1) (w.heap.size + 1) _ w1 C1.out (by omega)).mono ?_
  rintro e w2 ⟨p, q, rfl, c2, g2⟩
  obtain ⟨⟨d0, d1⟩, f0, f1⟩ := X1.out.only g2 (by omega)
  have O1 := hid (O1.out.only g2 (by simp)); have G2 := hid (only_trans G1.out g2); clear c2 g2 C1 G1 X1
  have e0 : ∀ z, (w2.setCell ⟨w.heap.size, 0, none⟩ z).cell? ⟨w.heap.size, 0, none⟩ = some z := fun z => World.cell?_setCell_same _ _ _ d0
  have e1 : ∀ z y, ((w2.setCell ⟨w.heap.size, 0, none⟩ z).setCell ⟨w.heap.size, 1, none⟩ y).cell? ⟨w.heap.size, 1, none⟩ = some y := fun z y => World.cell?_setCell_same _ _ _ (by rw [World.cell?_setCell_other _ _ _ _ (by simp)]; exact d1)
  go_wp2
  refine bodyPost_ret (v := .tuple #[u1, .agg #[.int .i64 p, .int .i64 q]]) (by simp [results, Try.results20, go_sem, e0, e1]) rfl ⟨_, _, _, rfl, xs, hx, ?_, ?_⟩
  · exact (O1.out.only (only_set (only_set (only_refl w2 _) 0 _) 1 _) (by simp; omega)).reads
  · have hb := only_below G2.out (Nat.le_refl _) (by simp)
    exact ((((Below.refl _ _).alloc (Nat.le_refl _) _).alloc (by simp) _).trans (hb.mono (by simp))).setCell (Nat.le_refl _) _ |>.setCell (Nat.le_refl _) _
end Go.Proofs.Ytndbdioignmaeaa
