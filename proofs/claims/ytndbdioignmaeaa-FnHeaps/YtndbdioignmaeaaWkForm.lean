/-
  Rows of work that are written: three cells at once, two change places. Plain facts on the memory.
-/
import Derived.Test.YtndbdioignmaeaaHeapMath
import Derived.Test.YtndbdioignmaeaaBut
namespace Go.Proofs.Ytndbdioignmaeaa
open Go.RowKit

theorem WkOwn.form {lo hi : Nat} {w : World} {v : Value} {xs : List WkEl} (h : WkOwn lo hi w v xs) (k : Nat) (hk : k < xs.length) : ∃ g cap, v = .slice (some ⟨g, 0, none⟩) xs.length cap ∧ (lo ≤ g ∧ g < hi) ∧ ∀ i, i < xs.length → WkCells w g (i * 3) (xs.getD i (0, 0, 0)) ∧ WkFree w g (i * 3) := by
  rcases h.2 with ⟨a, cap, _, rfl⟩ | ⟨g, cap, e, hg, hf⟩
  · simp at hk
  · exact ⟨g, cap, e, ⟨hg.1, hg.2.1⟩, hf⟩

/-- Three cells of one block are written: another block's cells are as they were. -/
theorem cell_set3 (w : World) (g o H j : Nat) (u0 u1 u2 : Value) (hne : H ≠ g) : (((w.setCell ⟨g, o, none⟩ u0).setCell ⟨g, o + 1, none⟩ u1).setCell ⟨g, o + 2, none⟩ u2).cell? ⟨H, j, none⟩ = w.cell? ⟨H, j, none⟩ := by
  rw [World.cell?_setCell_other _ _ _ _ (by intro h; have := congrArg Addr.block h; simp at this; omega), World.cell?_setCell_other _ _ _ _ (by intro h; have := congrArg Addr.block h; simp at this; omega), World.cell?_setCell_other _ _ _ _ (by intro h; have := congrArg Addr.block h; simp at this; omega)]
abbrev put3 (w : World) (g o : Nat) (x : WkEl) : World := ((w.setCell ⟨g, o, none⟩ (.int .i64 x.1)).setCell ⟨g, o + 1, none⟩ (.int .i64 x.2.1)).setCell ⟨g, o + 2, none⟩ (.int .i64 x.2.2)
theorem below_put3 {B : Nat} {a w : World} (h : Below B a w) {g : Nat} (hg : B ≤ g) (o : Nat) (x : WkEl) : Below B a (put3 w g o x) := ((h.setCell hg _).setCell hg _).setCell hg _
theorem size_put3 (w : World) (g o : Nat) (x : WkEl) : (put3 w g o x).heap.size = w.heap.size := by simp [put3, World.setCell]
/-- Two of a list change places. -/
theorem WkOwn.swap {lo hi g cap n : Nat} {w : World} {l : List WkEl} (h : WkOwn lo hi w (.slice (some ⟨g, 0, none⟩) n cap) l) (hl : l.length = n) (i j : Nat) (x y : WkEl) (hx : x = l.getD i (0, 0, 0)) (hy : y = l.getD j (0, 0, 0)) (hi' : i < n) (hj : j < n) :
    WkOwn lo hi (put3 (put3 w g (i * 3) y) g (j * 3) x) (.slice (some ⟨g, 0, none⟩) n cap) (swapL l i j) ∧ (WkFree w g (i * 3) ∧ WkCells w g (i * 3) x ∧ WkCells w g (j * 3) y) ∧ WkFree (put3 w g (i * 3) y) g (j * 3) ∧ ∃ z, WkCells (put3 w g (i * 3) y) g (j * 3) z := by
  have s1 := WkOwn.set (xs := l) (by rw [hl]; exact h) i y (by omega)
  have hl1 : (l.set i y).length = n := by simp [hl]
  have s2 := WkOwn.set (xs := l.set i y) (by rw [hl1]; have := s1.1; rw [hl] at this; exact this) j x (by omega)
  rw [hl1] at s2
  refine ⟨?_, ⟨s1.2.2.1, by rw [hx]; exact s1.2.2.2, ?_⟩, s2.2.2.1, _, s2.2.2.2⟩
  · unfold swapL
    rw [← show x = l.getD i wz from hx, ← show y = l.getD j wz from hy]
    exact s2.1
  · obtain ⟨g', cap', e, _, hc⟩ := h.form j (by omega)
    rw [hl] at e
    cases e
    rw [hy]
    exact (hc j (by omega)).1

theorem put3_same {w : World} {b : Nat} {z : WkEl} (c : WkCells w b 0 z) (x : WkEl) : WkCells (put3 w b 0 x) b 0 x := by
  refine ⟨?_, ?_, ?_⟩
  · rw [World.cell?_setCell_other _ _ _ _ (by simp), World.cell?_setCell_other _ _ _ _ (by simp)]; exact World.cell?_setCell_same _ _ _ c.1
  · rw [World.cell?_setCell_other _ _ _ _ (by simp)]; exact World.cell?_setCell_same _ _ _ (u := .int .i64 z.2.1) (by rw [World.cell?_setCell_other _ _ _ _ (by simp)]; exact c.2.1)
  · exact World.cell?_setCell_same _ _ _ (u := .int .i64 z.2.2) (by rw [World.cell?_setCell_other _ _ _ _ (by simp), World.cell?_setCell_other _ _ _ _ (by simp)]; exact c.2.2)
/-- A new one's cells, and that they may be written. -/
theorem alloc3 (w : World) (x : WkEl) : WkCells (w.alloc (.cells #[.int .i64 x.1, .int .i64 x.2.1, .int .i64 x.2.2] 48)) w.heap.size 0 x ∧ WkFree (w.alloc (.cells #[.int .i64 x.1, .int .i64 x.2.1, .int .i64 x.2.2] 48)) w.heap.size 0 := by
  refine ⟨⟨?_, ?_, ?_⟩, ?_, ?_, ?_⟩ <;> simp
theorem WkFree.below {w w' : World} {b o B : Nat} (h : WkFree w b o) (hb : Below B w w') (hB : b < B) : WkFree w' b o := h.of_block (hb.block b hB)
theorem but_put3 {P : Nat → Prop} {a w : World} (h : But P a w) {g : Nat} (hg : P g) (o : Nat) (x : WkEl) : But P a (put3 w g o x) := ((h.setCell hg _).setCell hg _).setCell hg _
theorem WkOwn.nonempty {lo hi n : Nat} {w : World} {v : Value} {xs : List WkEl} (h : w.ownsRow lo 48 3 v n (wkflat xs)) (hl : xs.length ≤ 1048576) (h0 : xs ≠ []) (hhi : w.heap.size ≤ hi) : ∃ g cap, v = .slice (some ⟨g, 0, none⟩) xs.length cap ∧ (lo ≤ g ∧ g < hi) ∧ WkOwn g (g + 1) w v xs := by
  have o := WkOwn.of_owns h (by omega)
  have hpos : 0 < xs.length := List.length_pos_iff.2 h0
  obtain ⟨g, cap, rfl, hg, _⟩ := o.form 0 hpos
  exact ⟨g, cap, rfl, ⟨hg.1, by omega⟩, (o.block hpos).1⟩

end Go.Proofs.Ytndbdioignmaeaa
