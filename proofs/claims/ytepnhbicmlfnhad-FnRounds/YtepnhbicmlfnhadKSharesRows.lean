/-
  Shares: what it reads as, and which lies in cells of its own. Plain facts on the memory.
-/
import Derived.Test.YtepnhbicmlfnhadQSet
import Derived.Test.YtepnhbicmlfnhadBoxL
namespace Go.Proofs.Ytepnhbicmlfnhad
open Go.RowKit

structure ShD where
  f0 : List Int
  f1 : Int
def ShReads (w : World) (v : Value) (D : ShD) : Prop := ∃ v0, v = .agg #[v0, .int .i64 D.f1] ∧ KReads w v0 D.f0
def shIv (c0 : Nat × Nat) : Nat → Nat × Nat
  | 0 => c0
  | _ => (0, 0)
def ShOwn (S : Nat → Prop) (w : World) (v : Value) (D : ShD) : Prop := ∃ v0 c0, v = .agg #[v0, .int .i64 D.f1] ∧ Aset S (1) (shIv c0) ∧ KOwn c0.1 c0.2 w v0 D.f0
theorem ShOwn.reads {S : Nat → Prop} {w : World} {v : Value} {D : ShD} (h : ShOwn S w v D) : ShReads w v D := by
  obtain ⟨v0, c0, rfl, _, h0⟩ := h
  exact ⟨v0, rfl, h0.reads⟩
theorem ShOwn.mono {S S' : Nat → Prop} {w : World} {v : Value} {D : ShD} (h : ShOwn S w v D) (hs : ∀ g, S g → S' g) : ShOwn S' w v D := by
  obtain ⟨v0, c0, rfl, ha, hr⟩ := h
  exact ⟨v0, c0, rfl, ha.mono hs, hr⟩
theorem ShOwn.at {S : Nat → Prop} {w w' : World} {v : Value} {D : ShD} (h : ShOwn S w v D) (hk : ∀ g, S g → g < w.heap.size → w'.heap[g]? = w.heap[g]?) : ShOwn S w' v D := by
  obtain ⟨v0, c0, rfl, ha, h0⟩ := h
  have n0 := ha.inn 0 (by omega)
  exact ⟨v0, c0, rfl, ha, h0.at fun g g1 g2 g3 => hk g (n0.2 g g1 g2) g3⟩
theorem ShOwn.below {S : Nat → Prop} {w w' : World} {v : Value} {D : ShD} (h : ShOwn S w v D) (hb : Below w.heap.size w w') : ShOwn S w' v D := h.at fun g _ hg => hb.block g hg
theorem ShOwn.onlyS {S S' : Nat → Prop} {w w' : World} {v : Value} {D : ShD} (h : ShOwn S w v D) (ho : OnlyS S' w w') (hd : ∀ g, S g → S' g → False) : ShOwn S w' v D := h.at fun g h1 h2 => ho g h2 (hd g h1)
theorem ShOwn.form {S : Nat → Prop} {w : World} {v : Value} {D : ShD} (h : ShOwn S w v D) : ∃ a0 n0 k0, v = .agg #[.slice a0 n0 k0, .int .i64 D.f1] := by
  obtain ⟨v0, c0, rfl, _, h0⟩ := h
  obtain ⟨a0, n0, k0, rfl⟩ := h0.sform
  exact ⟨a0, n0, k0, rfl⟩
theorem ShReads.below {w w' : World} {v : Value} {D : ShD} (h : ShReads w v D) (hb : Below w.heap.size w w') : ShReads w' v D := by
  obtain ⟨v0, rfl, h0⟩ := h
  exact ⟨v0, rfl, h0.below hb⟩
/-- How many numbers lie in its rows. -/
def shN (D : ShD) : Nat := D.f0.length
def shTot (D : ShD) : Nat := D.f0.length
end Go.Proofs.Ytepnhbicmlfnhad
