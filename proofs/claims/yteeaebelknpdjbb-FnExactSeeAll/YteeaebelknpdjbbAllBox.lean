/-
  The boxes of a function that makes a guess out of many seen. Plain facts on the memory.
-/
import Derived.Test.YteeaebelknpdjbbGuSet
import Derived.Test.YteeaebelknpdjbbGuBoxes
namespace Go.Proofs.Yteeaebelknpdjbb
open Go.RowKit

/-- The boxes of the answer and of the guess so far. -/
structure AllBox (w W : World) (G : Nat) (g : GuEl) : Prop where
  rc : GuCells W w.heap.size (0, 0, 0, 0)
  rf : GuFree W w.heap.size
  gc : GuCells W G g
  gf : GuFree W G
  bel : Below w.heap.size w W
  ne : w.heap.size < G
theorem AllBox.later {w W W' : World} {G : Nat} {g : GuEl} (h : AllBox w W G g) (hb : Below W.heap.size W W') : AllBox w W' G g :=
  ⟨h.rc.below hb h.rc.lt, h.rf.below hb h.rc.lt, h.gc.below hb h.gc.lt, h.gf.below hb h.gc.lt, h.bel.trans (hb.mono h.bel.size), h.ne⟩
theorem AllBox.put {w W : World} {G : Nat} {g : GuEl} (h : AllBox w W G g) (x : GuEl) : AllBox w (gput4 W G x) G x := by
  have hn := h.ne
  have nb : (gput4 W G x).heap[w.heap.size]? = W.heap[w.heap.size]? := by
    rw [Below.heap_setCell _ _ _ _ (by show _ ≠ G; omega), Below.heap_setCell _ _ _ _ (by show _ ≠ G; omega), Below.heap_setCell _ _ _ _ (by show _ ≠ G; omega), Below.heap_setCell _ _ _ _ (by show _ ≠ G; omega)]
  exact ⟨h.rc.of_block nb, h.rf.of_block nb, gput4_same h.gc x, GuFree.set (GuFree.set (GuFree.set (GuFree.set h.gf))), gbelow_put4 h.bel (by omega) x, h.ne⟩
theorem allBox (w w1 : World) (hb : Below (w.alloc (guB (0, 0, 0, 0))).heap.size (w.alloc (guB (0, 0, 0, 0))) w1) (x : GuEl) : AllBox w (w1.alloc (guB x)) w1.heap.size x := by
  have hr := galloc4 w (0, 0, 0, 0)
  have hg := galloc4 w1 x
  have b0 : Below w.heap.size w (w.alloc (guB (0, 0, 0, 0))) := (Below.refl _ _).alloc (Nat.le_refl _) _
  have b1 : Below w1.heap.size w1 (w1.alloc (guB x)) := (Below.refl _ _).alloc (Nat.le_refl _) _
  have hs : (w.alloc (guB (0, 0, 0, 0))).heap.size = w.heap.size + 1 := World.size_alloc ..
  have hs1 := hb.size
  have r1 := hr.1.below hb (by omega)
  have f1 := hr.2.below hb (by omega)
  exact ⟨r1.below b1 r1.lt, f1.below b1 r1.lt, hg.1, hg.2, (b0.trans (hb.mono (by omega))).trans (b1.mono (by omega)), by omega⟩
theorem AllBox.see {w W W' : World} {G : Nat} {g g' : GuEl} (h : AllBox w W G g) (hc : GuCells W' G g') (hf : GuFree W' G) (hb : But (fun j => j = G) W W') : AllBox w W' G g' := by
  have hn := h.ne
  exact ⟨h.rc.but hb (by omega), h.rf.but h.rc.lt hb (by omega), hc, hf, h.bel.trans (hb.to h.bel.size (fun j hj e => by omega)), h.ne⟩
end Go.Proofs.Yteeaebelknpdjbb
