/-
  Jobs that are drawn: three cells at once. Plain facts on the memory.
-/
import Derived.Test.YtobkockikpgcoabDraw
import Derived.Test.YtobkockikpgcoabJbApp2
namespace Go.Proofs.Ytobkockikpgcoab
open Go.RowKit

abbrev jput3 (w : World) (g o : Nat) (x : JbEl) : World := ((w.setCell ⟨g, o, none⟩ (.int .i64 x.1)).setCell ⟨g, o + 1, none⟩ (.int .i64 x.2.1)).setCell ⟨g, o + 2, none⟩ (.int .i64 x.2.2)
theorem jbelow_put3 {B : Nat} {a w : World} (h : Below B a w) {g : Nat} (hg : B ≤ g) (o : Nat) (x : JbEl) : Below B a (jput3 w g o x) := ((h.setCell hg _).setCell hg _).setCell hg _
theorem jsize_put3 (w : World) (g o : Nat) (x : JbEl) : (jput3 w g o x).heap.size = w.heap.size := by simp [jput3, World.setCell]
theorem jput3_same {w : World} {b : Nat} {z : JbEl} (c : JbCells w b 0 z) (x : JbEl) : JbCells (jput3 w b 0 x) b 0 x := by
  refine ⟨?_, ?_, ?_⟩
  · rw [World.cell?_setCell_other _ _ _ _ (by simp), World.cell?_setCell_other _ _ _ _ (by simp)]; exact World.cell?_setCell_same _ _ _ c.1
  · rw [World.cell?_setCell_other _ _ _ _ (by simp)]; exact World.cell?_setCell_same _ _ _ (u := .int .i64 z.2.1) (by rw [World.cell?_setCell_other _ _ _ _ (by simp)]; exact c.2.1)
  · exact World.cell?_setCell_same _ _ _ (u := .int .i64 z.2.2) (by rw [World.cell?_setCell_other _ _ _ _ (by simp), World.cell?_setCell_other _ _ _ _ (by simp)]; exact c.2.2)
theorem jalloc3 (w : World) (x : JbEl) : JbCells (w.alloc (.cells #[.int .i64 x.1, .int .i64 x.2.1, .int .i64 x.2.2] 34)) w.heap.size 0 x ∧ JbFree (w.alloc (.cells #[.int .i64 x.1, .int .i64 x.2.1, .int .i64 x.2.2] 34)) w.heap.size 0 := by
  refine ⟨⟨?_, ?_, ?_⟩, ?_, ?_, ?_⟩ <;> simp
theorem JbFree.below {w w' : World} {b o B : Nat} (h : JbFree w b o) (hb : Below B w w') (hB : b < B) : JbFree w' b o := h.of_block (hb.block b hB)
theorem JbCells.only {w w' : World} {H b o : Nat} {x : JbEl} (h : JbCells w H o x) (hg : w.grownBy w' (some b)) (hb : H ≠ b) : JbCells w' H o x := h.of_block (hg.block H h.lt (by intro e; cases e; omega))
theorem JbFree.only {w w' : World} {H b o : Nat} (h : JbFree w H o) (hl : H < w.heap.size) (hg : w.grownBy w' (some b)) (hb : H ≠ b) : JbFree w' H o := h.of_block (hg.block H hl (by intro e; cases e; omega))
theorem jbowns_only {w w' : World} {base : Nat} {t : TypeId} {size n b : Nat} {v : Value} {cs : List Value} (h : w.ownsRow base t size v n cs) (hg : w.grownBy w' (some b)) (hb : b < base) : w'.ownsRow base t size v n cs := by
  obtain ⟨h1, h2⟩ := h
  refine ⟨h1, ?_⟩
  rcases h2 with h | ⟨g, cap, cur, hv, hgb, hh, h⟩
  · exact .inl h
  · refine .inr ⟨g, cap, cur, hv, hgb, ?_, h⟩
    rw [hg.block g (Array.getElem?_eq_some_iff.1 hh).1 (by intro e; cases e; omega)]
    exact hh
theorem Cur.lt' {B b N : Nat} {w : World} (h : Cur B w b N) : b < w.heap.size := by
  obtain ⟨_, _, v, f, at_, sd, hr, _⟩ := h
  exact hr.lt
theorem Cur.ge' {B b N : Nat} {w : World} (h : Cur B w b N) : B ≤ b := h.1
end Go.Proofs.Ytobkockikpgcoab
