/-
  A row of Span is a slice. Plain facts.
  A struct in a box: its cells, one behind the other. Plain facts on the memory.
  Block: what it reads as, and which lies in cells of its own. Plain facts on the memory.
-/
import Derived.Test.YtnkpboobfkjibalKSpanRows
import Derived.Test.YtnkpboobfkjibalQForm
import Derived.Test.YtnkpboobfkjibalInts
import Derived.Test.YtnkpboobfkjibalQSet
namespace Go.Proofs.Ytnkpboobfkjibal
open Go.RowKit

theorem SpOwn.sform {lo hi : Nat} {w : World} {v : Value} {xs : List SpEl} (h : SpOwn lo hi w v xs) : ∃ a n k, v = .slice a n k := by
  rcases h.2 with ⟨a, cap, rfl, _⟩ | ⟨g, cap, rfl, _⟩
  · exact ⟨_, _, _, rfl⟩
  · exact ⟨_, _, _, rfl⟩
theorem SpOwn.onlyP {lo hi : Nat} {w w' : World} {v : Value} {xs : List SpEl} {P : Nat → Prop} (h : SpOwn lo hi w v xs) (ho : OnlyP P w w') (hd : ∀ g, lo ≤ g → g < hi → ¬ P g) : SpOwn lo hi w' v xs := h.at fun g h1 h2 _ => ho.2.1 g (hd g h1 h2)
theorem SpOwn.onlyS {lo hi : Nat} {S : Nat → Prop} {w w' : World} {v : Value} {xs : List SpEl} (h : SpOwn lo hi w v xs) (ho : OnlyS S w w') (hd : ∀ g, lo ≤ g → g < hi → ¬ S g) : SpOwn lo hi w' v xs := h.at fun g h1 h2 h3 => ho g h3 (hd g h1 h2)
end Go.Proofs.Ytnkpboobfkjibal
namespace Go.Proofs.Ytnkpboobfkjibal
open Go.RowKit

def BoxL (w : World) (b : Nat) (vs : List Value) : Prop := 0 < vs.length ∧ ∀ i (h : i < vs.length), w.cell? ⟨b, i, none⟩ = some vs[i] ∧ w.frozen? ⟨b, i, none⟩ = false
theorem BoxL.cell {w : World} {b : Nat} {vs : List Value} (h : BoxL w b vs) (i : Nat) (hi : i < vs.length) : w.cell? ⟨b, i, none⟩ = some vs[i] ∧ w.frozen? ⟨b, i, none⟩ = false := h.2 i hi
theorem BoxL.lt {w : World} {b : Nat} {vs : List Value} (h : BoxL w b vs) : b < w.heap.size := lt_of_cell (h.2 0 h.1).1
theorem BoxL.below {w w' : World} {b B : Nat} {vs : List Value} (h : BoxL w b vs) (hb : Below B w w') (hB : b < B) : BoxL w' b vs :=
  ⟨h.1, fun i hi => ⟨(World.cell?_of_block (a := ⟨b, i, none⟩) (hb.block b hB)).trans (h.2 i hi).1, (World.frozen?_of_block (a := ⟨b, i, none⟩) (hb.block b hB)).trans (h.2 i hi).2⟩⟩
theorem BoxL.of_block {w w' : World} {b : Nat} {vs : List Value} (h : BoxL w b vs) (e : w'.heap[b]? = w.heap[b]?) : BoxL w' b vs :=
  ⟨h.1, fun i hi => ⟨(World.cell?_of_block (a := ⟨b, i, none⟩) e).trans (h.2 i hi).1, (World.frozen?_of_block (a := ⟨b, i, none⟩) e).trans (h.2 i hi).2⟩⟩
theorem boxL_new (w : World) (vs : List Value) (t : TypeId) (h : 0 < vs.length := by simp) : BoxL (w.alloc (.cells vs.toArray t)) w.heap.size vs := by
  refine ⟨h, fun i hi => ⟨?_, ?_⟩⟩
  · rw [World.cell?_alloc_new]
    simp [hi]
  · simp
theorem BoxL.set {w : World} {b : Nat} {vs : List Value} (h : BoxL w b vs) (i : Nat) (hi : i < vs.length) (u : Value) : BoxL (w.setCell ⟨b, i, none⟩ u) b (vs.set i u) := by
  refine ⟨by rw [List.length_set]; exact h.1, fun j hj => ?_⟩
  rw [List.length_set] at hj
  refine ⟨?_, by simpa using (h.2 j hj).2⟩
  by_cases e : j = i
  · subst e
    rw [List.getElem_set_self]
    exact World.cell?_setCell_same _ _ _ (h.2 j hi).1
  · rw [List.getElem_set_ne (Ne.symm e), World.cell?_setCell_other _ _ _ _ (by simp <;> omega)]
    exact (h.2 j hj).1
theorem BoxL.two {w : World} {b : Nat} {a0 a1 : Value} (h : BoxL w b [a0, a1]) : w.cell? ⟨b, 0, none⟩ = some a0 ∧ w.cell? ⟨b, 1, none⟩ = some a1 := ⟨(h.2 0 (by simp)).1, (h.2 1 (by simp)).1⟩
theorem BoxL.three {w : World} {b : Nat} {a0 a1 a2 : Value} (h : BoxL w b [a0, a1, a2]) : w.cell? ⟨b, 0, none⟩ = some a0 ∧ w.cell? ⟨b, 1, none⟩ = some a1 ∧ w.cell? ⟨b, 2, none⟩ = some a2 := ⟨(h.2 0 (by simp)).1, (h.2 1 (by simp)).1, (h.2 2 (by simp)).1⟩
theorem BoxL.four {w : World} {b : Nat} {a0 a1 a2 a3 : Value} (h : BoxL w b [a0, a1, a2, a3]) : w.cell? ⟨b, 0, none⟩ = some a0 ∧ w.cell? ⟨b, 1, none⟩ = some a1 ∧ w.cell? ⟨b, 2, none⟩ = some a2 ∧ w.cell? ⟨b, 3, none⟩ = some a3 := ⟨(h.2 0 (by simp)).1, (h.2 1 (by simp)).1, (h.2 2 (by simp)).1, (h.2 3 (by simp)).1⟩
theorem BoxL.five {w : World} {b : Nat} {a0 a1 a2 a3 a4 : Value} (h : BoxL w b [a0, a1, a2, a3, a4]) : w.cell? ⟨b, 0, none⟩ = some a0 ∧ w.cell? ⟨b, 1, none⟩ = some a1 ∧ w.cell? ⟨b, 2, none⟩ = some a2 ∧ w.cell? ⟨b, 3, none⟩ = some a3 ∧ w.cell? ⟨b, 4, none⟩ = some a4 := ⟨(h.2 0 (by simp)).1, (h.2 1 (by simp)).1, (h.2 2 (by simp)).1, (h.2 3 (by simp)).1, (h.2 4 (by simp)).1⟩
end Go.Proofs.Ytnkpboobfkjibal
namespace Go.Proofs.Ytnkpboobfkjibal
open Go.RowKit

structure BlD where
  f0 : Int
  f1 : Int
  f2 : ByteArray
  f3 : List SpEl
def BlReads (w : World) (v : Value) (D : BlD) : Prop := ∃ v3, v = .agg #[.int .i64 D.f0, .int .i64 D.f1, .string D.f2, v3] ∧ SpReads w v3 D.f3
def blIv (c3 : Nat × Nat) : Nat → Nat × Nat
  | 0 => c3
  | _ => (0, 0)
def BlOwn (S : Nat → Prop) (w : World) (v : Value) (D : BlD) : Prop := ∃ v3 c3, v = .agg #[.int .i64 D.f0, .int .i64 D.f1, .string D.f2, v3] ∧ Aset S (1) (blIv c3) ∧ SpOwn c3.1 c3.2 w v3 D.f3
theorem BlOwn.reads {S : Nat → Prop} {w : World} {v : Value} {D : BlD} (h : BlOwn S w v D) : BlReads w v D := by
  obtain ⟨v3, c3, rfl, _, h3⟩ := h
  exact ⟨v3, rfl, h3.reads⟩
theorem BlOwn.mono {S S' : Nat → Prop} {w : World} {v : Value} {D : BlD} (h : BlOwn S w v D) (hs : ∀ g, S g → S' g) : BlOwn S' w v D := by
  obtain ⟨v3, c3, rfl, ha, hr⟩ := h
  exact ⟨v3, c3, rfl, ha.mono hs, hr⟩
theorem BlOwn.at {S : Nat → Prop} {w w' : World} {v : Value} {D : BlD} (h : BlOwn S w v D) (hk : ∀ g, S g → g < w.heap.size → w'.heap[g]? = w.heap[g]?) : BlOwn S w' v D := by
  obtain ⟨v3, c3, rfl, ha, h3⟩ := h
  have n3 := ha.inn 0 (by omega)
  exact ⟨v3, c3, rfl, ha, h3.at fun g g1 g2 g3 => hk g (n3.2 g g1 g2) g3⟩
theorem BlOwn.below {S : Nat → Prop} {w w' : World} {v : Value} {D : BlD} (h : BlOwn S w v D) (hb : Below w.heap.size w w') : BlOwn S w' v D := h.at fun g _ hg => hb.block g hg
theorem BlOwn.onlyS {S S' : Nat → Prop} {w w' : World} {v : Value} {D : BlD} (h : BlOwn S w v D) (ho : OnlyS S' w w') (hd : ∀ g, S g → S' g → False) : BlOwn S w' v D := h.at fun g h1 h2 => ho g h2 (hd g h1)
theorem BlOwn.form {S : Nat → Prop} {w : World} {v : Value} {D : BlD} (h : BlOwn S w v D) : ∃ a3 n3 k3, v = .agg #[.int .i64 D.f0, .int .i64 D.f1, .string D.f2, .slice a3 n3 k3] := by
  obtain ⟨v3, c3, rfl, _, h3⟩ := h
  obtain ⟨a3, n3, k3, rfl⟩ := h3.sform
  exact ⟨a3, n3, k3, rfl⟩
theorem BlReads.below {w w' : World} {v : Value} {D : BlD} (h : BlReads w v D) (hb : Below w.heap.size w w') : BlReads w' v D := by
  obtain ⟨v3, rfl, h3⟩ := h
  exact ⟨v3, rfl, h3.below hb⟩
/-- How many numbers lie in its rows. -/
def blN (D : BlD) : Nat := 2 * D.f3.length
def blTot (D : BlD) : Nat := D.f2.size + D.f3.length
end Go.Proofs.Ytnkpboobfkjibal
