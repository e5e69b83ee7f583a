/-
  A struct in a box: its cells, one behind the other. Plain facts on the memory.
  A row of Span is a slice. Plain facts.
  Sender: what it reads as, and which lies in cells of its own. Plain facts on the memory.
  Spans appended to an empty row that is written out: the law of one operation in a region that draws its order. Plain facts.
-/
import Derived.Test.YtnkpboobfkjibadInts
import Derived.Test.YtnkpboobfkjibadKSpanRows
import Derived.Test.YtnkpboobfkjibadQForm
import Derived.Test.YtnkpboobfkjibadSCloneM
import Derived.Deep.RegionLawGrows
namespace Go.Proofs.Ytnkpboobfkjibad
open Go.RowKit

def BoxL (w : World) (b : Nat) (vs : List Value) : Prop := 0 < vs.length ∧ ∀ i (h : i < vs.length), w.cell? ⟨b, i, none⟩ = some vs[i] ∧ w.frozen? ⟨b, i, none⟩ = false
theorem BoxL.cell {w : World} {b : Nat} {vs : List Value} (h : BoxL w b vs) (i : Nat) (hi : i < vs.length) : w.cell? ⟨b, i, none⟩ = some vs[i] ∧ w.frozen? ⟨b, i, none⟩ = false := h.2 i hi
theorem BoxL.lt {w : World} {b : Nat} {vs : List Value} (h : BoxL w b vs) : b < w.heap.size := lt_of_cell (h.2 0 h.1).1
theorem BoxL.below {w w' : World} {b B : Nat} {vs : List Value} (h : BoxL w b vs) (hb : Below B w w') (hB : b < B) : BoxL w' b vs :=
  ⟨h.1, fun i hi => ⟨(World.cell?_of_block (a := ⟨b, i, none⟩) (hb.block b hB)).trans (h.2 i hi).1, (World.frozen?_of_block (a := ⟨b, i, none⟩) (hb.block b hB)).trans (h.2 i hi).2⟩⟩
theorem BoxL.of_block {w w' : World} {b : Nat} {vs : List Value} (h : BoxL w b vs) (e : w'.heap[b]? = w.heap[b]?) : BoxL w' b vs :=
  ⟨h.1, fun i hi => ⟨(World.cell?_of_block (a := ⟨b, i, none⟩) e).trans (h.2 i hi).1, (World.frozen?_of_block (a := ⟨b, i, none⟩) e).trans (h.2 i hi).2⟩⟩
theorem boxL_new (w : World) (vs : List Value) (t : TypeId) (h : 0 < vs.length := by simp) : BoxL (w.alloc (.cells vs.toArray t)) w.heap.size vs := by
  refine ⟨h, fun i hi => ⟨?_, ?_⟩⟩
  · rw [World.cell?_alloc_new]
    simp [hi]
  · simp
theorem BoxL.set {w : World} {b : Nat} {vs : List Value} (h : BoxL w b vs) (i : Nat) (hi : i < vs.length) (u : Value) : BoxL (w.setCell ⟨b, i, none⟩ u) b (vs.set i u) := by
  refine ⟨by rw [List.length_set]; exact h.1, fun j hj => ?_⟩
  rw [List.length_set] at hj
  refine ⟨?_, by simpa using (h.2 j hj).2⟩
  by_cases e : j = i
  · subst e
    rw [List.getElem_set_self]
    exact World.cell?_setCell_same _ _ _ (h.2 j hi).1
  · rw [List.getElem_set_ne (Ne.symm e), World.cell?_setCell_other _ _ _ _ (by simp <;> omega)]
    exact (h.2 j hj).1
theorem BoxL.two {w : World} {b : Nat} {a0 a1 : Value} (h : BoxL w b [a0, a1]) : w.cell? ⟨b, 0, none⟩ = some a0 ∧ w.cell? ⟨b, 1, none⟩ = some a1 := ⟨(h.2 0 (by simp)).1, (h.2 1 (by simp)).1⟩
theorem BoxL.three {w : World} {b : Nat} {a0 a1 a2 : Value} (h : BoxL w b [a0, a1, a2]) : w.cell? ⟨b, 0, none⟩ = some a0 ∧ w.cell? ⟨b, 1, none⟩ = some a1 ∧ w.cell? ⟨b, 2, none⟩ = some a2 := ⟨(h.2 0 (by simp)).1, (h.2 1 (by simp)).1, (h.2 2 (by simp)).1⟩
theorem BoxL.four {w : World} {b : Nat} {a0 a1 a2 a3 : Value} (h : BoxL w b [a0, a1, a2, a3]) : w.cell? ⟨b, 0, none⟩ = some a0 ∧ w.cell? ⟨b, 1, none⟩ = some a1 ∧ w.cell? ⟨b, 2, none⟩ = some a2 ∧ w.cell? ⟨b, 3, none⟩ = some a3 := ⟨(h.2 0 (by simp)).1, (h.2 1 (by simp)).1, (h.2 2 (by simp)).1, (h.2 3 (by simp)).1⟩
theorem BoxL.five {w : World} {b : Nat} {a0 a1 a2 a3 a4 : Value} (h : BoxL w b [a0, a1, a2, a3, a4]) : w.cell? ⟨b, 0, none⟩ = some a0 ∧ w.cell? ⟨b, 1, none⟩ = some a1 ∧ w.cell? ⟨b, 2, none⟩ = some a2 ∧ w.cell? ⟨b, 3, none⟩ = some a3 ∧ w.cell? ⟨b, 4, none⟩ = some a4 := ⟨(h.2 0 (by simp)).1, (h.2 1 (by simp)).1, (h.2 2 (by simp)).1, (h.2 3 (by simp)).1, (h.2 4 (by simp)).1⟩
end Go.Proofs.Ytnkpboobfkjibad
namespace Go.Proofs.Ytnkpboobfkjibad
open Go.RowKit

theorem SpOwn.sform {lo hi : Nat} {w : World} {v : Value} {xs : List SpEl} (h : SpOwn lo hi w v xs) : ∃ a n k, v = .slice a n k := by
  rcases h.2 with ⟨a, cap, rfl, _⟩ | ⟨g, cap, rfl, _⟩
  · exact ⟨_, _, _, rfl⟩
  · exact ⟨_, _, _, rfl⟩
theorem SpOwn.onlyP {lo hi : Nat} {w w' : World} {v : Value} {xs : List SpEl} {P : Nat → Prop} (h : SpOwn lo hi w v xs) (ho : OnlyP P w w') (hd : ∀ g, lo ≤ g → g < hi → ¬ P g) : SpOwn lo hi w' v xs := h.at fun g h1 h2 _ => ho.2.1 g (hd g h1 h2)
theorem SpOwn.onlyS {lo hi : Nat} {S : Nat → Prop} {w w' : World} {v : Value} {xs : List SpEl} (h : SpOwn lo hi w v xs) (ho : OnlyS S w w') (hd : ∀ g, lo ≤ g → g < hi → ¬ S g) : SpOwn lo hi w' v xs := h.at fun g h1 h2 h3 => ho g h3 (hd g h1 h2)
end Go.Proofs.Ytnkpboobfkjibad
namespace Go.Proofs.Ytnkpboobfkjibad
open Go.RowKit

structure SdD where
  f0 : Int
  f1 : List SpEl
  f2 : List Int
def SdReads (w : World) (v : Value) (D : SdD) : Prop := ∃ v1 v2, v = .agg #[.int .i64 D.f0, v1, v2] ∧ SpReads w v1 D.f1 ∧ KReads w v2 D.f2
def sdIv (c1 c2 : Nat × Nat) : Nat → Nat × Nat
  | 0 => c1
  | 1 => c2
  | _ => (0, 0)
def SdOwn (S : Nat → Prop) (w : World) (v : Value) (D : SdD) : Prop := ∃ v1 v2 c1 c2, v = .agg #[.int .i64 D.f0, v1, v2] ∧ Aset S (2) (sdIv c1 c2) ∧ SpOwn c1.1 c1.2 w v1 D.f1 ∧ KOwn c2.1 c2.2 w v2 D.f2
theorem SdOwn.reads {S : Nat → Prop} {w : World} {v : Value} {D : SdD} (h : SdOwn S w v D) : SdReads w v D := by
  obtain ⟨v1, v2, c1, c2, rfl, _, h1, h2⟩ := h
  exact ⟨v1, v2, rfl, h1.reads, h2.reads⟩
theorem SdOwn.mono {S S' : Nat → Prop} {w : World} {v : Value} {D : SdD} (h : SdOwn S w v D) (hs : ∀ g, S g → S' g) : SdOwn S' w v D := by
  obtain ⟨v1, v2, c1, c2, rfl, ha, hr⟩ := h
  exact ⟨v1, v2, c1, c2, rfl, ha.mono hs, hr⟩
theorem SdOwn.at {S : Nat → Prop} {w w' : World} {v : Value} {D : SdD} (h : SdOwn S w v D) (hk : ∀ g, S g → g < w.heap.size → w'.heap[g]? = w.heap[g]?) : SdOwn S w' v D := by
  obtain ⟨v1, v2, c1, c2, rfl, ha, h1, h2⟩ := h
  have n1 := ha.inn 0 (by omega)
  have n2 := ha.inn 1 (by omega)
  exact ⟨v1, v2, c1, c2, rfl, ha, h1.at fun g g1 g2 g3 => hk g (n1.2 g g1 g2) g3, h2.at fun g g1 g2 g3 => hk g (n2.2 g g1 g2) g3⟩
theorem SdOwn.below {S : Nat → Prop} {w w' : World} {v : Value} {D : SdD} (h : SdOwn S w v D) (hb : Below w.heap.size w w') : SdOwn S w' v D := h.at fun g _ hg => hb.block g hg
theorem SdOwn.onlyS {S S' : Nat → Prop} {w w' : World} {v : Value} {D : SdD} (h : SdOwn S w v D) (ho : OnlyS S' w w') (hd : ∀ g, S g → S' g → False) : SdOwn S w' v D := h.at fun g h1 h2 => ho g h2 (hd g h1)
theorem SdOwn.form {S : Nat → Prop} {w : World} {v : Value} {D : SdD} (h : SdOwn S w v D) : ∃ a1 n1 k1 a2 n2 k2, v = .agg #[.int .i64 D.f0, .slice a1 n1 k1, .slice a2 n2 k2] := by
  obtain ⟨v1, v2, c1, c2, rfl, _, h1, h2⟩ := h
  obtain ⟨a1, n1, k1, rfl⟩ := h1.sform
  obtain ⟨a2, n2, k2, rfl⟩ := h2.sform
  exact ⟨a1, n1, k1, a2, n2, k2, rfl⟩
theorem SdReads.below {w w' : World} {v : Value} {D : SdD} (h : SdReads w v D) (hb : Below w.heap.size w w') : SdReads w' v D := by
  obtain ⟨v1, v2, rfl, h1, h2⟩ := h
  exact ⟨v1, v2, rfl, h1.below hb, h2.below hb⟩
/-- How many numbers lie in its rows. -/
def sdN (D : SdD) : Nat := 2 * D.f1.length + D.f2.length
def sdTot (D : SdD) : Nat := D.f1.length + D.f2.length
end Go.Proofs.Ytnkpboobfkjibad
namespace Go.Proofs.Ytnkpboobfkjibad
open Go.RowKit

theorem step_clone_sp {ops : Array Oper} {o : Oper} {a : Act} {w : World} {K : Act → World → Prop} {Q : Exit → Act → World → Prop} {E : Prop} (hg : o.guard = none) (s x : Operand)
    (hop : o.op = Op.call { callee := Callee.builtin Builtin.append, args := #[s, x], argTypes := #[47, 47] }) (b : Nat) (hs : a.eval s = .slice (some ⟨b, 0, none⟩) 0 0) (vx : Value) (ys : List Sp) (hx : a.eval x = vx) (hr : SpReads w vx ys) (hl : ys.length ≤ 1000)
    (hK : ∀ v' w', SpOwn w.heap.size w'.heap.size w' v' ys → Below w.heap.size w w' → K (a.put o.dst v') w') :
    if Region.wanted o (yielded ops a.tmps) = true then Oper.wp Try.prog o a w K Q else E := by
  obtain ⟨i0, hi, hz0, hz1, hz2⟩ := info_parts info_span
  obtain ⟨a0, cap, rfl, hlen, hc⟩ := hr
  by_cases h0 : ys = []
  · subst h0
    have hw : Region.wanted o (yielded ops a.tmps) = true := by simp [Region.wanted, hg]
    rw [if_pos hw]
    have hrun := nothing_run (w := w) hi hz1 o.type (some ⟨b, 0, none⟩) 0 0 (Nat.le_refl _) a0 cap
    unfold Oper.wp execOp
    simp only [hop, resolve, invoke, builtin, Sem.run_bind, Sem.run_pure, Result.andThen_ok, List.map_toArray, List.map_cons, List.map_nil, hs, hx, List.length_nil, hrun]
    exact hK _ _ (spown_nil _ _ _ _ _) (Below.refl _ _)
  · rcases hc with hc | ⟨g, off, rfl, hc⟩
    · exact absurd hc h0
    have hpos : 0 < ys.length := List.length_pos_iff.2 h0
    refine step_append_grows hg s x _ hop 133 i0 (.agg #[.int .i64 0, .int .i64 0]) 2 16 Try.underlying47 hi hz0 hz1 hz2 (by rfl) (by decide) (some ⟨b, 0, none⟩) 0 0 [] hs (by intro h; cases h) (by rfl) (by intro b0 _ j u h; simp at h) ⟨g, off, none⟩ ys.length cap (spflat ys) hx (by rw [length_spflat]) (spflat_cells hc) (spflat_one _) (by omega) (by unfold maxLen; omega) (by omega) ?_
    intro u2 w2 hown hgrow
    rw [Nat.zero_add, List.nil_append] at hown
    exact hK _ _ (SpOwn.of_owns hown (by omega)) ((Below.refl _ _).grown hgrow (Nat.le_refl _) (by intro k h; cases h))
end Go.Proofs.Ytnkpboobfkjibad
