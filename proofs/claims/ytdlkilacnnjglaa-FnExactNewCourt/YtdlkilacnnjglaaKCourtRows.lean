/-
  Court: what it reads as, and which lies in cells of its own. Plain facts on the memory.
-/
import Derived.Test.YtdlkilacnnjglaaQSet
import Derived.Test.YtdlkilacnnjglaaKCaseSf
import Derived.Test.YtdlkilacnnjglaaKSlipSf
import Derived.Test.YtdlkilacnnjglaaBoxL
namespace Go.Proofs.Ytdlkilacnnjglaa
open Go.RowKit

structure CoD where
  f0 : Int
  f1 : List CaEl
  f2 : List SlEl
def CoReads (w : World) (v : Value) (D : CoD) : Prop := ∃ v1 v2, v = .agg #[.int .i64 D.f0, v1, v2] ∧ CaReads w v1 D.f1 ∧ SlReads w v2 D.f2
def coIv (c1 c2 : Nat × Nat) : Nat → Nat × Nat
  | 0 => c1
  | 1 => c2
  | _ => (0, 0)
def CoOwn (S : Nat → Prop) (w : World) (v : Value) (D : CoD) : Prop := ∃ v1 v2 c1 c2, v = .agg #[.int .i64 D.f0, v1, v2] ∧ Aset S (2) (coIv c1 c2) ∧ CaOwn c1.1 c1.2 w v1 D.f1 ∧ SlOwn c2.1 c2.2 w v2 D.f2
theorem CoOwn.reads {S : Nat → Prop} {w : World} {v : Value} {D : CoD} (h : CoOwn S w v D) : CoReads w v D := by
  obtain ⟨v1, v2, c1, c2, rfl, _, h1, h2⟩ := h
  exact ⟨v1, v2, rfl, h1.reads, h2.reads⟩
theorem CoOwn.mono {S S' : Nat → Prop} {w : World} {v : Value} {D : CoD} (h : CoOwn S w v D) (hs : ∀ g, S g → S' g) : CoOwn S' w v D := by
  obtain ⟨v1, v2, c1, c2, rfl, ha, hr⟩ := h
  exact ⟨v1, v2, c1, c2, rfl, ha.mono hs, hr⟩
theorem CoOwn.at {S : Nat → Prop} {w w' : World} {v : Value} {D : CoD} (h : CoOwn S w v D) (hk : ∀ g, S g → g < w.heap.size → w'.heap[g]? = w.heap[g]?) : CoOwn S w' v D := by
  obtain ⟨v1, v2, c1, c2, rfl, ha, h1, h2⟩ := h
  have n1 := ha.inn 0 (by omega)
  have n2 := ha.inn 1 (by omega)
  exact ⟨v1, v2, c1, c2, rfl, ha, h1.at fun g g1 g2 g3 => hk g (n1.2 g g1 g2) g3, h2.at fun g g1 g2 g3 => hk g (n2.2 g g1 g2) g3⟩
theorem CoOwn.below {S : Nat → Prop} {w w' : World} {v : Value} {D : CoD} (h : CoOwn S w v D) (hb : Below w.heap.size w w') : CoOwn S w' v D := h.at fun g _ hg => hb.block g hg
theorem CoOwn.onlyS {S S' : Nat → Prop} {w w' : World} {v : Value} {D : CoD} (h : CoOwn S w v D) (ho : OnlyS S' w w') (hd : ∀ g, S g → S' g → False) : CoOwn S w' v D := h.at fun g h1 h2 => ho g h2 (hd g h1)
theorem CoOwn.form {S : Nat → Prop} {w : World} {v : Value} {D : CoD} (h : CoOwn S w v D) : ∃ a1 n1 k1 a2 n2 k2, v = .agg #[.int .i64 D.f0, .slice a1 n1 k1, .slice a2 n2 k2] := by
  obtain ⟨v1, v2, c1, c2, rfl, _, h1, h2⟩ := h
  obtain ⟨a1, n1, k1, rfl⟩ := h1.sform
  obtain ⟨a2, n2, k2, rfl⟩ := h2.sform
  exact ⟨a1, n1, k1, a2, n2, k2, rfl⟩
theorem CoReads.below {w w' : World} {v : Value} {D : CoD} (h : CoReads w v D) (hb : Below w.heap.size w w') : CoReads w' v D := by
  obtain ⟨v1, v2, rfl, h1, h2⟩ := h
  exact ⟨v1, v2, rfl, h1.below hb, h2.below hb⟩
/-- How many numbers lie in its rows. -/
def coN (D : CoD) : Nat := 4 * D.f1.length + 3 * D.f2.length
def coTot (D : CoD) : Nat := D.f1.length + D.f2.length
end Go.Proofs.Ytdlkilacnnjglaa
