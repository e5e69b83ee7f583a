/-
  What is left of jobs, in a row of cells of its own. Plain facts on the memory.
-/
import Derived.Test.YtobkockikpgcoabRangeT
import Derived.Test.YtobkockikpgcoabKJobApp
import Derived.Test.YtobkockikpgcoabEdfMath
namespace Go.Proofs.Ytobkockikpgcoab
open Go.RowKit

/-- A slice that reads as ys, in a block of jobs from n0 on that may be written; or an empty one. -/
def LeftIs (n0 : Nat) (w : World) (v : Value) (ys : List JbEl) : Prop :=
  ys.length ≤ 1048576 ∧ ((ys = [] ∧ ∃ a, v = .slice a 0 0) ∨ ∃ g cap, v = .slice (some ⟨g, 0, none⟩) ys.length cap ∧ n0 ≤ g ∧ ys.length ≤ cap ∧ (∃ cs z, w.heap[g]? = some (.cells cs 34 z)) ∧ ∀ i, i < ys.length → JbCells w g (i * 3) (ys.getD i (0, 0, 0)) ∧ JbFree w g (i * 3))
theorem LeftIs.reads {n0 : Nat} {w : World} {v : Value} {ys : List JbEl} (h : LeftIs n0 w v ys) : JbReads w v ys := by
  obtain ⟨hl, h⟩ := h
  rcases h with ⟨rfl, a, rfl⟩ | ⟨g, cap, rfl, _, hc, _, hf⟩
  · exact ⟨a, 0, rfl, by simp, .inl rfl⟩
  · exact ⟨_, cap, rfl, ⟨by omega, hc⟩, .inr ⟨g, 0, rfl, fun i hi => by rw [Nat.zero_add]; exact (hf i hi).1⟩⟩
theorem LeftIs.at {n0 : Nat} {w w' : World} {v : Value} {ys : List JbEl} (h : LeftIs n0 w v ys) (hk : ∀ (g : Nat) cs z, w.heap[g]? = some (.cells cs 34 z) → w'.heap[g]? = w.heap[g]?) : LeftIs n0 w' v ys := by
  obtain ⟨hl, h⟩ := h
  refine ⟨hl, ?_⟩
  rcases h with h | ⟨g, cap, rfl, hg, hc, ⟨cs, z, hz⟩, hf⟩
  · exact .inl h
  · have e := hk g cs z hz
    exact .inr ⟨g, cap, rfl, hg, hc, ⟨cs, z, e.trans hz⟩, fun i hi => ⟨(hf i hi).1.of_block e, (hf i hi).2.of_block e⟩⟩
theorem LeftIs.below {n0 : Nat} {w w' : World} {v : Value} {ys : List JbEl} (h : LeftIs n0 w v ys) (hb : Below w.heap.size w w') : LeftIs n0 w' v ys :=
  h.at fun g _ _ hg => hb.block g (Array.getElem?_eq_some_iff.1 hg).1
theorem LeftIs.keep {n0 : Nat} {w w' : World} {v : Value} {ys : List JbEl} (h : LeftIs n0 w v ys) (hb : KeepT 34 w w') : LeftIs n0 w' v ys :=
  h.at fun g cs z hg => (hb.2 g cs z hg).trans hg.symm
theorem LeftIs.of_owns {n0 : Nat} {w : World} {v : Value} {n : Nat} {ys : List JbEl} (h : w.ownsRow n0 34 3 v n (jbflat ys)) (hl : ys.length ≤ 1048576) (h0 : ys ≠ []) : LeftIs n0 w v ys := by
  obtain ⟨hn, h⟩ := h
  rw [length_jbflat] at hn
  obtain rfl : ys.length = n := by omega
  refine ⟨hl, .inr ?_⟩
  rcases h with ⟨rfl, h⟩ | ⟨g, cap, cur, rfl, hg, hh, hc, hm, hs, ht⟩
  · exact absurd (List.eq_nil_of_length_eq_zero h) h0
  · exact ⟨g, cap, rfl, hg, hc, ⟨cur, (0, 0), hh⟩, jbown_cells hh ht (Nat.le_refl _)⟩
theorem cells_setCell {w : World} {g o : Nat} {cs : Array Value} {t : TypeId} {z : Nat × Nat} (h : w.heap[g]? = some (.cells cs t z)) (v : Value) : ∃ cs', (w.setCell ⟨g, o, none⟩ v).heap[g]? = some (.cells cs' t z) := by
  obtain ⟨hlt, hk⟩ := Array.getElem?_eq_some_iff.1 h
  refine ⟨cs.setIfInBounds o v, ?_⟩
  show (w.heap.modify g _)[g]? = _
  rw [Array.getElem?_eq_getElem (by rw [Array.size_modify]; exact hlt), Array.getElem_modify_self, hk]
  rfl
/-- One less is needed of the one at i. -/
theorem LeftIs.dec {n0 : Nat} {w : World} {v : Value} {ys : List JbEl} (h : LeftIs n0 w v ys) (i : Nat) (hi : i < ys.length) (x : JbEl) (hx : ys.getD i (0, 0, 0) = x) :
    ∃ g cap cs z, v = .slice (some ⟨g, 0, none⟩) ys.length cap ∧ n0 ≤ g ∧ w.heap[g]? = some (.cells cs 34 z) ∧ JbCells w g (i * 3) x ∧ JbFree w g (i * 3) ∧
      LeftIs n0 (w.setCell ⟨g, i * 3 + 1, none⟩ (.int .i64 (x.2.1 - 1))) v (ys.set i (dec1 x)) := by
  obtain ⟨hl, h⟩ := h
  rcases h with ⟨rfl, _⟩ | ⟨g, cap, rfl, hg, hc, ⟨cs, z, hz⟩, hf⟩
  · simp at hi
  · refine ⟨g, cap, cs, z, rfl, hg, hz, by rw [← hx]; exact (hf i hi).1, (hf i hi).2, by simpa using hl, .inr ⟨g, cap, by simp, hg, by simpa using hc, ?_, fun j hj => ?_⟩⟩
    · obtain ⟨cs', h'⟩ := cells_setCell (o := i * 3 + 1) hz (.int .i64 (x.2.1 - 1))
      exact ⟨cs', z, h'⟩
    · have hj' : j < ys.length := by simpa using hj
      obtain ⟨c, f⟩ := hf j hj'
      refine ⟨?_, by obtain ⟨f0, f1, f2⟩ := f; refine ⟨?_, ?_, ?_⟩ <;> (rw [World.frozen?_setCell]; assumption)⟩
      by_cases e : j = i
      · subst e
        rw [getD_set _ _ _ _ hi, if_pos rfl]
        rw [hx] at c
        obtain ⟨c0, c1, c2⟩ := c
        refine ⟨?_, ?_, ?_⟩
        · rw [World.cell?_setCell_other _ _ _ _ (by simp)]; exact c0
        · exact World.cell?_setCell_same _ _ _ (u := .int .i64 x.2.1) c1
        · rw [World.cell?_setCell_other _ _ _ _ (by simp)]; exact c2
      · rw [getD_set _ _ _ _ hi, if_neg e]
        obtain ⟨c0, c1, c2⟩ := c
        refine ⟨?_, ?_, ?_⟩ <;> (rw [World.cell?_setCell_other _ _ _ _ (by simp <;> omega)]; assumption)
end Go.Proofs.Ytobkockikpgcoab
