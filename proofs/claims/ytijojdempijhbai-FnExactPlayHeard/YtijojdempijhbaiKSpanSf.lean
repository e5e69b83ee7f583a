/-
  A row of Span is a slice. Plain facts.
  A struct in a box: its cells, one behind the other. Plain facts on the memory.
  Sender: what it reads as, and which lies in cells of its own. Plain facts on the memory.
-/
import Derived.Test.YtijojdempijhbaiKSpanRows
import Derived.Test.YtijojdempijhbaiQForm
import Derived.Test.YtijojdempijhbaiInts
import Derived.Test.YtijojdempijhbaiQSet
namespace Go.Proofs.Ytijojdempijhbai
open Go.RowKit

theorem SpOwn.sform {lo hi : Nat} {w : World} {v : Value} {xs : List SpEl} (h : SpOwn lo hi w v xs) : ∃ a n k, v = .slice a n k := by
  rcases h.2 with ⟨a, cap, rfl, _⟩ | ⟨g, cap, rfl, _⟩
  · exact ⟨_, _, _, rfl⟩
  · exact ⟨_, _, _, rfl⟩
theorem SpOwn.onlyP {lo hi : Nat} {w w' : World} {v : Value} {xs : List SpEl} {P : Nat → Prop} (h : SpOwn lo hi w v xs) (ho : OnlyP P w w') (hd : ∀ g, lo ≤ g → g < hi → ¬ P g) : SpOwn lo hi w' v xs := h.at fun g h1 h2 _ => ho.2.1 g (hd g h1 h2)
theorem SpOwn.onlyS {lo hi : Nat} {S : Nat → Prop} {w w' : World} {v : Value} {xs : List SpEl} (h : SpOwn lo hi w v xs) (ho : OnlyS S w w') (hd : ∀ g, lo ≤ g → g < hi → ¬ S g) : SpOwn lo hi w' v xs := h.at fun g h1 h2 h3 => ho g h3 (hd g h1 h2)
end Go.Proofs.Ytijojdempijhbai
namespace Go.Proofs.Ytijojdempijhbai
open Go.RowKit

def BoxL (w : World) (b : Nat) (vs : List Value) : Prop := 0 < vs.length ∧ ∀ i (h : i < vs.length), w.cell? ⟨b, i, none⟩ = some vs[i] ∧ w.frozen? ⟨b, i, none⟩ = false
theorem BoxL.cell {w : World} {b : Nat} {vs : List Value} (h : BoxL w b vs) (i : Nat) (hi : i < vs.length) : w.cell? ⟨b, i, none⟩ = some vs[i] ∧ w.frozen? ⟨b, i, none⟩ = false := h.2 i hi
theorem BoxL.lt {w : World} {b : Nat} {vs : List Value} (h : BoxL w b vs) : b < w.heap.size := lt_of_cell (h.2 0 h.1).1
theorem BoxL.below {w w' : World} {b B : Nat} {vs : List Value} (h : BoxL w b vs) (hb : Below B w w') (hB : b < B) : BoxL w' b vs :=
  ⟨h.1, fun i hi => ⟨(World.cell?_of_block (a := ⟨b, i, none⟩) (hb.block b hB)).trans (h.2 i hi).1, (World.frozen?_of_block (a := ⟨b, i, none⟩) (hb.block b hB)).trans (h.2 i hi).2⟩⟩
theorem BoxL.of_block {w w' : World} {b : Nat} {vs : List Value} (h : BoxL w b vs) (e : w'.heap[b]? = w.heap[b]?) : BoxL w' b vs :=
  ⟨h.1, fun i hi => ⟨(World.cell?_of_block (a := ⟨b, i, none⟩) e).trans (h.2 i hi).1, (World.frozen?_of_block (a := ⟨b, i, none⟩) e).trans (h.2 i hi).2⟩⟩
theorem boxL_new (w : World) (vs : List Value) (t : TypeId) (h : 0 < vs.length := by simp) : BoxL (w.alloc (.cells vs.toArray t)) w.heap.size vs := by
  refine ⟨h, fun i hi => ⟨?_, ?_⟩⟩
  · rw [World.cell?_alloc_new]
    simp [hi]
  · simp
theorem BoxL.set {w : World} {b : Nat} {vs : List Value} (h : BoxL w b vs) (i : Nat) (hi : i < vs.length) (u : Value) : BoxL (w.setCell ⟨b, i, none⟩ u) b (vs.set i u) := by
  refine ⟨by rw [List.length_set]; exact h.1, fun j hj => ?_⟩
  rw [List.length_set] at hj
  refine ⟨?_, by simpa using (h.2 j hj).2⟩
  by_cases e : j = i
  · subst e
    rw [List.getElem_set_self]
    exact World.cell?_setCell_same _ _ _ (h.2 j hi).1
  · rw [List.getElem_set_ne (Ne.symm e), World.cell?_setCell_other _ _ _ _ (by simp <;> omega)]
    exact (h.2 j hj).1
theorem BoxL.two {w : World} {b : Nat} {a0 a1 : Value} (h : BoxL w b [a0, a1]) : w.cell? ⟨b, 0, none⟩ = some a0 ∧ w.cell? ⟨b, 1, none⟩ = some a1 := ⟨(h.2 0 (by simp)).1, (h.2 1 (by simp)).1⟩
theorem BoxL.three {w : World} {b : Nat} {a0 a1 a2 : Value} (h : BoxL w b [a0, a1, a2]) : w.cell? ⟨b, 0, none⟩ = some a0 ∧ w.cell? ⟨b, 1, none⟩ = some a1 ∧ w.cell? ⟨b, 2, none⟩ = some a2 := ⟨(h.2 0 (by simp)).1, (h.2 1 (by simp)).1, (h.2 2 (by simp)).1⟩
theorem BoxL.four {w : World} {b : Nat} {a0 a1 a2 a3 : Value} (h : BoxL w b [a0, a1, a2, a3]) : w.cell? ⟨b, 0, none⟩ = some a0 ∧ w.cell? ⟨b, 1, none⟩ = some a1 ∧ w.cell? ⟨b, 2, none⟩ = some a2 ∧ w.cell? ⟨b, 3, none⟩ = some a3 := ⟨(h.2 0 (by simp)).1, (h.2 1 (by simp)).1, (h.2 2 (by simp)).1, (h.2 3 (by simp)).1⟩
theorem BoxL.five {w : World} {b : Nat} {a0 a1 a2 a3 a4 : Value} (h : BoxL w b [a0, a1, a2, a3, a4]) : w.cell? ⟨b, 0, none⟩ = some a0 ∧ w.cell? ⟨b, 1, none⟩ = some a1 ∧ w.cell? ⟨b, 2, none⟩ = some a2 ∧ w.cell? ⟨b, 3, none⟩ = some a3 ∧ w.cell? ⟨b, 4, none⟩ = some a4 := ⟨(h.2 0 (by simp)).1, (h.2 1 (by simp)).1, (h.2 2 (by simp)).1, (h.2 3 (by simp)).1, (h.2 4 (by simp)).1⟩
end Go.Proofs.Ytijojdempijhbai
namespace Go.Proofs.Ytijojdempijhbai
open Go.RowKit

structure SdD where
  f0 : Int
  f1 : List SpEl
  f2 : List Int
def SdReads (w : World) (v : Value) (D : SdD) : Prop := ∃ v1 v2, v = .agg #[.int .i64 D.f0, v1, v2] ∧ SpReads w v1 D.f1 ∧ KReads w v2 D.f2
def sdIv (c1 c2 : Nat × Nat) : Nat → Nat × Nat
  | 0 => c1
  | 1 => c2
  | _ => (0, 0)
def SdOwn (S : Nat → Prop) (w : World) (v : Value) (D : SdD) : Prop := ∃ v1 v2 c1 c2, v = .agg #[.int .i64 D.f0, v1, v2] ∧ Aset S (2) (sdIv c1 c2) ∧ SpOwn c1.1 c1.2 w v1 D.f1 ∧ KOwn c2.1 c2.2 w v2 D.f2
theorem SdOwn.reads {S : Nat → Prop} {w : World} {v : Value} {D : SdD} (h : SdOwn S w v D) : SdReads w v D := by
  obtain ⟨v1, v2, c1, c2, rfl, _, h1, h2⟩ := h
  exact ⟨v1, v2, rfl, h1.reads, h2.reads⟩
theorem SdOwn.mono {S S' : Nat → Prop} {w : World} {v : Value} {D : SdD} (h : SdOwn S w v D) (hs : ∀ g, S g → S' g) : SdOwn S' w v D := by
  obtain ⟨v1, v2, c1, c2, rfl, ha, hr⟩ := h
  exact ⟨v1, v2, c1, c2, rfl, ha.mono hs, hr⟩
theorem SdOwn.at {S : Nat → Prop} {w w' : World} {v : Value} {D : SdD} (h : SdOwn S w v D) (hk : ∀ g, S g → g < w.heap.size → w'.heap[g]? = w.heap[g]?) : SdOwn S w' v D := by
  obtain ⟨v1, v2, c1, c2, rfl, ha, h1, h2⟩ := h
  have n1 := ha.inn 0 (by omega)
  have n2 := ha.inn 1 (by omega)
  exact ⟨v1, v2, c1, c2, rfl, ha, h1.at fun g g1 g2 g3 => hk g (n1.2 g g1 g2) g3, h2.at fun g g1 g2 g3 => hk g (n2.2 g g1 g2) g3⟩
theorem SdOwn.below {S : Nat → Prop} {w w' : World} {v : Value} {D : SdD} (h : SdOwn S w v D) (hb : Below w.heap.size w w') : SdOwn S w' v D := h.at fun g _ hg => hb.block g hg
theorem SdOwn.onlyS {S S' : Nat → Prop} {w w' : World} {v : Value} {D : SdD} (h : SdOwn S w v D) (ho : OnlyS S' w w') (hd : ∀ g, S g → S' g → False) : SdOwn S w' v D := h.at fun g h1 h2 => ho g h2 (hd g h1)
theorem SdOwn.form {S : Nat → Prop} {w : World} {v : Value} {D : SdD} (h : SdOwn S w v D) : ∃ a1 n1 k1 a2 n2 k2, v = .agg #[.int .i64 D.f0, .slice a1 n1 k1, .slice a2 n2 k2] := by
  obtain ⟨v1, v2, c1, c2, rfl, _, h1, h2⟩ := h
  obtain ⟨a1, n1, k1, rfl⟩ := h1.sform
  obtain ⟨a2, n2, k2, rfl⟩ := h2.sform
  exact ⟨a1, n1, k1, a2, n2, k2, rfl⟩
theorem SdReads.below {w w' : World} {v : Value} {D : SdD} (h : SdReads w v D) (hb : Below w.heap.size w w') : SdReads w' v D := by
  obtain ⟨v1, v2, rfl, h1, h2⟩ := h
  exact ⟨v1, v2, rfl, h1.below hb, h2.below hb⟩
/-- How many numbers lie in its rows. -/
def sdN (D : SdD) : Nat := 2 * D.f1.length + D.f2.length
def sdTot (D : SdD) : Nat := D.f1.length + D.f2.length
end Go.Proofs.Ytijojdempijhbai
