/-
  A struct in a box: its cells, one behind the other. Plain facts on the memory.
  Turns: what it reads as, and which lies in cells of its own. Plain facts on the memory.
  Turns in memory of their own, to whose queues one may append. Plain facts on the memory.
-/
import Derived.Test.YtepnhbicmlfnhacInts
import Derived.Test.YtepnhbicmlfnhacQSet
import Derived.Test.YtepnhbicmlfnhacKAppd
namespace Go.Proofs.Ytepnhbicmlfnhac
open Go.RowKit

def BoxL (w : World) (b : Nat) (vs : List Value) : Prop := 0 < vs.length ∧ ∀ i (h : i < vs.length), w.cell? ⟨b, i, none⟩ = some vs[i] ∧ w.frozen? ⟨b, i, none⟩ = false
theorem BoxL.cell {w : World} {b : Nat} {vs : List Value} (h : BoxL w b vs) (i : Nat) (hi : i < vs.length) : w.cell? ⟨b, i, none⟩ = some vs[i] ∧ w.frozen? ⟨b, i, none⟩ = false := h.2 i hi
theorem BoxL.lt {w : World} {b : Nat} {vs : List Value} (h : BoxL w b vs) : b < w.heap.size := lt_of_cell (h.2 0 h.1).1
theorem BoxL.below {w w' : World} {b B : Nat} {vs : List Value} (h : BoxL w b vs) (hb : Below B w w') (hB : b < B) : BoxL w' b vs :=
  ⟨h.1, fun i hi => ⟨(World.cell?_of_block (a := ⟨b, i, none⟩) (hb.block b hB)).trans (h.2 i hi).1, (World.frozen?_of_block (a := ⟨b, i, none⟩) (hb.block b hB)).trans (h.2 i hi).2⟩⟩
theorem BoxL.of_block {w w' : World} {b : Nat} {vs : List Value} (h : BoxL w b vs) (e : w'.heap[b]? = w.heap[b]?) : BoxL w' b vs :=
  ⟨h.1, fun i hi => ⟨(World.cell?_of_block (a := ⟨b, i, none⟩) e).trans (h.2 i hi).1, (World.frozen?_of_block (a := ⟨b, i, none⟩) e).trans (h.2 i hi).2⟩⟩
theorem boxL_new (w : World) (vs : List Value) (t : TypeId) (h : 0 < vs.length := by simp) : BoxL (w.alloc (.cells vs.toArray t)) w.heap.size vs := by
  refine ⟨h, fun i hi => ⟨?_, ?_⟩⟩
  · rw [World.cell?_alloc_new]
    simp [hi]
  · simp
theorem BoxL.set {w : World} {b : Nat} {vs : List Value} (h : BoxL w b vs) (i : Nat) (hi : i < vs.length) (u : Value) : BoxL (w.setCell ⟨b, i, none⟩ u) b (vs.set i u) := by
  refine ⟨by rw [List.length_set]; exact h.1, fun j hj => ?_⟩
  rw [List.length_set] at hj
  refine ⟨?_, by simpa using (h.2 j hj).2⟩
  by_cases e : j = i
  · subst e
    rw [List.getElem_set_self]
    exact World.cell?_setCell_same _ _ _ (h.2 j hi).1
  · rw [List.getElem_set_ne (Ne.symm e), World.cell?_setCell_other _ _ _ _ (by simp <;> omega)]
    exact (h.2 j hj).1
theorem BoxL.two {w : World} {b : Nat} {a0 a1 : Value} (h : BoxL w b [a0, a1]) : w.cell? ⟨b, 0, none⟩ = some a0 ∧ w.cell? ⟨b, 1, none⟩ = some a1 := ⟨(h.2 0 (by simp)).1, (h.2 1 (by simp)).1⟩
theorem BoxL.three {w : World} {b : Nat} {a0 a1 a2 : Value} (h : BoxL w b [a0, a1, a2]) : w.cell? ⟨b, 0, none⟩ = some a0 ∧ w.cell? ⟨b, 1, none⟩ = some a1 ∧ w.cell? ⟨b, 2, none⟩ = some a2 := ⟨(h.2 0 (by simp)).1, (h.2 1 (by simp)).1, (h.2 2 (by simp)).1⟩
theorem BoxL.four {w : World} {b : Nat} {a0 a1 a2 a3 : Value} (h : BoxL w b [a0, a1, a2, a3]) : w.cell? ⟨b, 0, none⟩ = some a0 ∧ w.cell? ⟨b, 1, none⟩ = some a1 ∧ w.cell? ⟨b, 2, none⟩ = some a2 ∧ w.cell? ⟨b, 3, none⟩ = some a3 := ⟨(h.2 0 (by simp)).1, (h.2 1 (by simp)).1, (h.2 2 (by simp)).1, (h.2 3 (by simp)).1⟩
theorem BoxL.five {w : World} {b : Nat} {a0 a1 a2 a3 a4 : Value} (h : BoxL w b [a0, a1, a2, a3, a4]) : w.cell? ⟨b, 0, none⟩ = some a0 ∧ w.cell? ⟨b, 1, none⟩ = some a1 ∧ w.cell? ⟨b, 2, none⟩ = some a2 ∧ w.cell? ⟨b, 3, none⟩ = some a3 ∧ w.cell? ⟨b, 4, none⟩ = some a4 := ⟨(h.2 0 (by simp)).1, (h.2 1 (by simp)).1, (h.2 2 (by simp)).1, (h.2 3 (by simp)).1, (h.2 4 (by simp)).1⟩
end Go.Proofs.Ytepnhbicmlfnhac
namespace Go.Proofs.Ytepnhbicmlfnhac
open Go.RowKit

structure TuD where
  f0 : List Int
  f1 : List (List Int)
  f2 : List Int
  f3 : List Int
  f4 : Int
def TuReads (w : World) (v : Value) (D : TuD) : Prop := ∃ v0 v1 v2 v3, v = .agg #[v0, v1, v2, v3, .int .i64 D.f4] ∧ KReads w v0 D.f0 ∧ QReads w v1 D.f1 ∧ KReads w v2 D.f2 ∧ KReads w v3 D.f3
def tuIv (c0 c1 c2 c3 : Nat × Nat) (iv : Nat → Nat × Nat) : Nat → Nat × Nat
  | 0 => c0
  | 1 => c1
  | 2 => c2
  | 3 => c3
  | i + 4 => iv i
def TuOwn (S : Nat → Prop) (w : World) (v : Value) (D : TuD) : Prop := ∃ v0 v1 v2 v3 c0 c1 c2 c3 iv, v = .agg #[v0, v1, v2, v3, .int .i64 D.f4] ∧ Aset S (D.f1.length + 4) (tuIv c0 c1 c2 c3 iv) ∧ KOwn c0.1 c0.2 w v0 D.f0 ∧ QRow w c1 v1 D.f1 iv ∧ KOwn c2.1 c2.2 w v2 D.f2 ∧ KOwn c3.1 c3.2 w v3 D.f3
theorem TuOwn.reads {S : Nat → Prop} {w : World} {v : Value} {D : TuD} (h : TuOwn S w v D) : TuReads w v D := by
  obtain ⟨v0, v1, v2, v3, c0, c1, c2, c3, iv, rfl, _, h0, h1, h2, h3⟩ := h
  exact ⟨v0, v1, v2, v3, rfl, h0.reads, h1.reads, h2.reads, h3.reads⟩
theorem TuOwn.mono {S S' : Nat → Prop} {w : World} {v : Value} {D : TuD} (h : TuOwn S w v D) (hs : ∀ g, S g → S' g) : TuOwn S' w v D := by
  obtain ⟨v0, v1, v2, v3, c0, c1, c2, c3, iv, rfl, ha, hr⟩ := h
  exact ⟨v0, v1, v2, v3, c0, c1, c2, c3, iv, rfl, ha.mono hs, hr⟩
theorem TuOwn.at {S : Nat → Prop} {w w' : World} {v : Value} {D : TuD} (h : TuOwn S w v D) (hk : ∀ g, S g → g < w.heap.size → w'.heap[g]? = w.heap[g]?) : TuOwn S w' v D := by
  obtain ⟨v0, v1, v2, v3, c0, c1, c2, c3, iv, rfl, ha, h0, h1, h2, h3⟩ := h
  have n0 := ha.inn 0 (by omega)
  have n1 := ha.inn 1 (by omega)
  have n2 := ha.inn 2 (by omega)
  have n3 := ha.inn 3 (by omega)
  exact ⟨v0, v1, v2, v3, c0, c1, c2, c3, iv, rfl, ha, h0.at fun g g1 g2 g3 => hk g (n0.2 g g1 g2) g3, h1.at (fun g g1 g2 g3 => hk g (n1.2 g g1 g2) g3) (fun j hj g g1 g2 g3 => hk g ((ha.inn (j + 4) (by omega)).2 g g1 g2) g3), h2.at fun g g1 g2 g3 => hk g (n2.2 g g1 g2) g3, h3.at fun g g1 g2 g3 => hk g (n3.2 g g1 g2) g3⟩
theorem TuOwn.below {S : Nat → Prop} {w w' : World} {v : Value} {D : TuD} (h : TuOwn S w v D) (hb : Below w.heap.size w w') : TuOwn S w' v D := h.at fun g _ hg => hb.block g hg
theorem TuOwn.onlyS {S S' : Nat → Prop} {w w' : World} {v : Value} {D : TuD} (h : TuOwn S w v D) (ho : OnlyS S' w w') (hd : ∀ g, S g → S' g → False) : TuOwn S w' v D := h.at fun g h1 h2 => ho g h2 (hd g h1)
theorem TuOwn.form {S : Nat → Prop} {w : World} {v : Value} {D : TuD} (h : TuOwn S w v D) : ∃ a0 n0 k0 a1 n1 k1 a2 n2 k2 a3 n3 k3, v = .agg #[.slice a0 n0 k0, .slice a1 n1 k1, .slice a2 n2 k2, .slice a3 n3 k3, .int .i64 D.f4] := by
  obtain ⟨v0, v1, v2, v3, c0, c1, c2, c3, iv, rfl, _, h0, h1, h2, h3⟩ := h
  obtain ⟨a0, n0, k0, rfl⟩ := h0.sform
  obtain ⟨a1, n1, k1, rfl⟩ := h1.sform
  obtain ⟨a2, n2, k2, rfl⟩ := h2.sform
  obtain ⟨a3, n3, k3, rfl⟩ := h3.sform
  exact ⟨a0, n0, k0, a1, n1, k1, a2, n2, k2, a3, n3, k3, rfl⟩
theorem TuReads.below {w w' : World} {v : Value} {D : TuD} (h : TuReads w v D) (hb : Below w.heap.size w w') : TuReads w' v D := by
  obtain ⟨v0, v1, v2, v3, rfl, h0, h1, h2, h3⟩ := h
  exact ⟨v0, v1, v2, v3, rfl, h0.below hb, h1.below hb, h2.below hb, h3.below hb⟩
/-- How many numbers lie in its rows. -/
def tuN (D : TuD) : Nat := D.f0.length + preL D.f1 D.f1.length + D.f2.length + D.f3.length
def tuTot (D : TuD) : Nat := D.f0.length + (D.f1.length + preL D.f1 D.f1.length) + D.f2.length + D.f3.length
end Go.Proofs.Ytepnhbicmlfnhac
namespace Go.Proofs.Ytepnhbicmlfnhac
open Go.RowKit

def TuOwnA (S : Nat → Prop) (w : World) (v : Value) (D : TuD) : Prop := ∃ v0 v1 v2 v3 c0 c1 c2 c3 iv, v = .agg #[v0, v1, v2, v3, .int .i64 D.f4] ∧ Aset S (D.f1.length + 4) (tuIv c0 c1 c2 c3 iv) ∧ KOwn c0.1 c0.2 w v0 D.f0 ∧ QRow w c1 v1 D.f1 iv ∧ KOwn c2.1 c2.2 w v2 D.f2 ∧ KOwn c3.1 c3.2 w v3 D.f3 ∧ QAppd w v1 D.f1 iv
theorem TuOwnA.own {S : Nat → Prop} {w : World} {v : Value} {D : TuD} (h : TuOwnA S w v D) : TuOwn S w v D := by
  obtain ⟨v0, v1, v2, v3, c0, c1, c2, c3, iv, rfl, ha, h0, h1, h2, h3, _⟩ := h
  exact ⟨v0, v1, v2, v3, c0, c1, c2, c3, iv, rfl, ha, h0, h1, h2, h3⟩
end Go.Proofs.Ytepnhbicmlfnhac
