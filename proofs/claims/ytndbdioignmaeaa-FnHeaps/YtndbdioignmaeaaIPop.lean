/-
  impl's method pop of a list of work that lies in a variable. Nothing else is written.
-/
import Derived.Test.YtndbdioignmaeaaIRemove
namespace Go.Proofs.Ytndbdioignmaeaa
open Go.RowKit

set_option maxHeartbeats 2000000 in
theorem pop_any (H g n m cap : Nat) (xs : List WkEl) (x : WkEl) (hx0 : x = xs.getD 0 wz) (w : World) (hc : w.cell? ⟨H, 0, none⟩ = some (.slice (some ⟨g, 0, none⟩) n cap)) (hf : w.frozen? ⟨H, 0, none⟩ = false) (hne : H ≠ g)
    (ho : WkOwn g (g + 1) w (.slice (some ⟨g, 0, none⟩) n cap) xs) (hn : xs.length = n) (hm : n = m + 1) (hx : n ≤ 1048576) :
    Calls Try.prog 80 #[.pointer (some ⟨H, 0, none⟩)] w fun e w' => e = .returned (.agg #[.int .i64 x.1, .int .i64 x.2.1, .int .i64 x.2.2]) ∧ w'.cell? ⟨H, 0, none⟩ = some (.slice (some ⟨g, 0, none⟩) m cap) ∧ WkOwn g (g + 1) w' (.slice (some ⟨g, 0, none⟩) m cap) (removeL xs 0) ∧ But (fun j => j = g ∨ j = H) w w' ∧ w'.frozen? ⟨H, 0, none⟩ = false := by
  have HO := hid ho
  have HN := hid hn
  have HM := hid hm
  have hH : H < w.heap.size := lt_of_cell hc
  obtain ⟨⟨c0, c1, c2⟩, hg⟩ : WkCells w g 0 x ∧ g < w.heap.size := by
    obtain ⟨_, _, e, _, hcc⟩ := ho.form 0 (by omega)
    cases e
    have := (hcc 0 (by omega)).1
    rw [hx0]
    exact ⟨by simpa using this, this.lt⟩
  have n0 : (0 : Int) < (n : Int) := by omega
  have hn0 : 0 < n := by omega
  clear ho hn hm hx0
  go_enter Try.func80, Try.ntmps80
  obtain ⟨W, hW⟩ : ∃ W, W = (w.alloc (.cells #[.int .i64 0, .int .i64 0, .int .i64 0] 48)).alloc (.cells #[.int .i64 x.1, .int .i64 x.2.1, .int .i64 x.2.2] 48) := ⟨_, rfl⟩
  have bW : Below w.heap.size w W := by rw [hW]; go_grown
  have hsW : W.heap.size = w.heap.size + 2 := by rw [hW]; simp
  have x0 : W.cell? ⟨w.heap.size + 1, 0, none⟩ = some (.int .i64 x.1) := by rw [hW]; simp
  have x1 : W.cell? ⟨w.heap.size + 1, 1, none⟩ = some (.int .i64 x.2.1) := by rw [hW]; simp
  have x2 : W.cell? ⟨w.heap.size + 1, 2, none⟩ = some (.int .i64 x.2.2) := by rw [hW]; simp
  have y0 : W.cell? ⟨w.heap.size, 0, none⟩ = some (.int .i64 0) := by rw [hW]; simp
  have y1 : W.cell? ⟨w.heap.size, 1, none⟩ = some (.int .i64 0) := by rw [hW]; simp
  have y2 : W.cell? ⟨w.heap.size, 2, none⟩ = some (.int .i64 0) := by rw [hW]; simp
  have f0 : W.frozen? ⟨w.heap.size, 0, none⟩ = false := by rw [hW]; simp
  have f1 : W.frozen? ⟨w.heap.size, 1, none⟩ = false := by rw [hW]; simp
  have f2 : W.frozen? ⟨w.heap.size, 2, none⟩ = false := by rw [hW]; simp
  have RM : Hid (Calls Try.prog 83 #[.pointer (some ⟨H, 0, none⟩), .int .i64 0] W fun e w' => e = .returned (.tuple #[]) ∧ w'.cell? ⟨H, 0, none⟩ = some (.slice (some ⟨g, 0, none⟩) m cap) ∧ WkOwn g (g + 1) w' (.slice (some ⟨g, 0, none⟩) m cap) (removeL xs 0) ∧ But (fun j => j = g ∨ j = H) W w' ∧ w'.frozen? ⟨H, 0, none⟩ = false) :=
    remove_any H g n m cap 0 xs W ((bW.cell hH).trans hc) ((bW.frozen hH).trans hf) hne (HO.out.below bW) HN.out HM.out hn0 hx
  have HWW := hid hW
  clear hW
  go_wp2_with fail
  rw [← HWW.out]
  refine RM.out.mono ?_
  rintro e w1 ⟨rfl, hc1, o1, b1, hf1⟩
  have HF1 := hid hf1
  clear hf1
  have O1 := hid o1
  have B1 := hid b1
  have hs1 := b1.size
  have a0 := (b1.cell (p := ⟨w.heap.size + 1, 0, none⟩) (by intro h; simp at h; omega) (by show w.heap.size + 1 < W.heap.size; omega)).trans x0
  have a1 := (b1.cell (p := ⟨w.heap.size + 1, 1, none⟩) (by intro h; simp at h; omega) (by show w.heap.size + 1 < W.heap.size; omega)).trans x1
  have a2 := (b1.cell (p := ⟨w.heap.size + 1, 2, none⟩) (by intro h; simp at h; omega) (by show w.heap.size + 1 < W.heap.size; omega)).trans x2
  have z0 := (b1.cell (p := ⟨w.heap.size, 0, none⟩) (by intro h; simp at h; omega) (by show w.heap.size < W.heap.size; omega)).trans y0
  have z1 := (b1.cell (p := ⟨w.heap.size, 1, none⟩) (by intro h; simp at h; omega) (by show w.heap.size < W.heap.size; omega)).trans y1
  have z2 := (b1.cell (p := ⟨w.heap.size, 2, none⟩) (by intro h; simp at h; omega) (by show w.heap.size < W.heap.size; omega)).trans y2
  have g0 := (b1.frozen (p := ⟨w.heap.size, 0, none⟩) (by intro h; simp at h; omega) (by show w.heap.size < W.heap.size; omega)).trans f0
  have g1 := (b1.frozen (p := ⟨w.heap.size, 1, none⟩) (by intro h; simp at h; omega) (by show w.heap.size < W.heap.size; omega)).trans f1
  have g2 := (b1.frozen (p := ⟨w.heap.size, 2, none⟩) (by intro h; simp at h; omega) (by show w.heap.size < W.heap.size; omega)).trans f2
  have BW := hid bW
  clear o1 b1 x0 x1 x2 y0 y1 y2 f0 f1 f2 bW hsW hs1 c0 c1 c2 hc hf
  go_wp2
  have e0 : (put3 w1 w.heap.size 0 x).cell? ⟨w.heap.size, 0, none⟩ = some (.int .i64 x.1) := by
    rw [World.cell?_setCell_other _ _ _ _ (by simp), World.cell?_setCell_other _ _ _ _ (by simp)]; exact World.cell?_setCell_same _ _ _ z0
  have e1 : (put3 w1 w.heap.size 0 x).cell? ⟨w.heap.size, 1, none⟩ = some (.int .i64 x.2.1) := by
    rw [World.cell?_setCell_other _ _ _ _ (by simp)]; exact World.cell?_setCell_same _ _ _ (u := .int .i64 0) (by rw [World.cell?_setCell_other _ _ _ _ (by simp)]; exact z1)
  have e2 : (put3 w1 w.heap.size 0 x).cell? ⟨w.heap.size, 2, none⟩ = some (.int .i64 x.2.2) := 
    World.cell?_setCell_same _ _ _ (u := .int .i64 0) (by rw [World.cell?_setCell_other _ _ _ _ (by simp), World.cell?_setCell_other _ _ _ _ (by simp)]; exact z2)
  refine bodyPost_ret (v := .agg #[.int .i64 x.1, .int .i64 x.2.1, .int .i64 x.2.2]) (by simp [results, Try.results80, go_sem, e0, e1, e2]) rfl ⟨rfl, ?_, ?_, ?_, by simpa using HF1.out⟩
  · exact (cell_set3 _ _ _ _ _ _ _ _ (by omega)).trans hc1
  · exact O1.out.at fun j h1 h2 _ => by
      rw [Below.heap_setCell _ _ _ _ (by show j ≠ w.heap.size; omega), Below.heap_setCell _ _ _ _ (by show j ≠ w.heap.size; omega), Below.heap_setCell _ _ _ _ (by show j ≠ w.heap.size; omega)]
  · exact ((((But.of BW.out).trans B1.out).setNew (Nat.le_refl _) _).setNew (Nat.le_refl _) _).setNew (Nat.le_refl _) _
end Go.Proofs.Ytndbdioignmaeaa
