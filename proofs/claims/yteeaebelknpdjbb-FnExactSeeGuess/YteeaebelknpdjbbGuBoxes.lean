/-
  The boxes of a function that takes a guess and what was seen and answers a guess. Plain facts on the memory.
-/
import Derived.Test.YteeaebelknpdjbbGuForm
namespace Go.Proofs.Yteeaebelknpdjbb
open Go.RowKit

abbrev guB (x : GuEl) : Obj := .cells #[.int .i64 x.1, .int .i64 x.2.1, .int .i64 x.2.2.1, .int .i64 x.2.2.2] 23
abbrev snB (x : SnEl) : Obj := .cells #[.int .i64 x.1, .bool x.2.1, .bool x.2.2] 35
structure SeeBox (w W : World) (g : GuEl) (x : SnEl) : Prop where
  gc : GuCells W w.heap.size g
  gf : GuFree W w.heap.size
  xc : SnBox W (w.heap.size + 1) x
  rc : GuCells W (w.heap.size + 2) (0, 0, 0, 0)
  rf : GuFree W (w.heap.size + 2)
  bel : Below w.heap.size w W
  sz : w.heap.size + 3 ≤ W.heap.size
theorem SeeBox.later {w W W' : World} {g : GuEl} {x : SnEl} (h : SeeBox w W g x) (hb : Below W.heap.size W W') : SeeBox w W' g x := by
  have hs := h.sz
  exact ⟨h.gc.below hb (by omega), h.gf.below hb (by omega), h.xc.below hb (by omega), h.rc.below hb (by omega), h.rf.below hb (by omega), h.bel.trans (hb.mono (by omega)), Nat.le_trans hs hb.size⟩
theorem seeBox (w : World) (g : GuEl) (x : SnEl) : SeeBox w (((w.alloc (guB g)).alloc (snB x)).alloc (guB (0, 0, 0, 0))) g x := by
  have hb0 := galloc4 w g
  have hx0 := snalloc (w.alloc (guB g)) x
  have hc0 := galloc4 ((w.alloc (guB g)).alloc (snB x)) (0, 0, 0, 0)
  have s1 : (w.alloc (guB g)).heap.size = w.heap.size + 1 := World.size_alloc ..
  have s2 : ((w.alloc (guB g)).alloc (snB x)).heap.size = w.heap.size + 2 := by rw [World.size_alloc, s1]
  have s3 : (((w.alloc (guB g)).alloc (snB x)).alloc (guB (0, 0, 0, 0))).heap.size = w.heap.size + 3 := by rw [World.size_alloc, s2]
  have b1 : Below (w.heap.size + 1) (w.alloc (guB g)) ((w.alloc (guB g)).alloc (snB x)) := (Below.refl _ _).alloc (by omega) _
  have b2 : Below (w.heap.size + 2) ((w.alloc (guB g)).alloc (snB x)) (((w.alloc (guB g)).alloc (snB x)).alloc (guB (0, 0, 0, 0))) := (Below.refl _ _).alloc (by omega) _
  have b12 : Below (w.heap.size + 1) (w.alloc (guB g)) (((w.alloc (guB g)).alloc (snB x)).alloc (guB (0, 0, 0, 0))) := b1.trans (b2.mono (by omega))
  rw [s1] at hx0
  rw [s2] at hc0
  exact ⟨hb0.1.below b12 (by omega), hb0.2.below b12 (by omega), hx0.below b2 (by omega), hc0.1, hc0.2, ((Below.refl _ _).alloc (Nat.le_refl _) _).trans (b12.mono (by omega)), by omega⟩
end Go.Proofs.Yteeaebelknpdjbb
