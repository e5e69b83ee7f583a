/-
  Greet: what it reads as, and which lies in cells of its own. Plain facts on the memory.
-/
import Derived.Test.YtgdclnejlhfhlanQSet
import Derived.Test.YtgdclnejlhfhlanKHelloSf
import Derived.Test.YtgdclnejlhfhlanBoxL
namespace Go.Proofs.Ytgdclnejlhfhlan
open Go.RowKit

structure GrD where
  f0 : Int
  f1 : Int
  f2 : Int
  f3 : Int
  f4 : Int
  f5 : Int
  f6 : Int
  f7 : Int
  f8 : List HeEl
  f9 : List HeEl
  f10 : List HeEl
def GrReads (w : World) (v : Value) (D : GrD) : Prop := ∃ v8 v9 v10, v = .agg #[.int .i64 D.f0, .int .i64 D.f1, .int .i64 D.f2, .int .i64 D.f3, .int .i64 D.f4, .int .i64 D.f5, .int .i64 D.f6, .int .i64 D.f7, v8, v9, v10] ∧ HeReads w v8 D.f8 ∧ HeReads w v9 D.f9 ∧ HeReads w v10 D.f10
def grIv (c8 c9 c10 : Nat × Nat) : Nat → Nat × Nat
  | 0 => c8
  | 1 => c9
  | 2 => c10
  | _ => (0, 0)
def GrOwn (S : Nat → Prop) (w : World) (v : Value) (D : GrD) : Prop := ∃ v8 v9 v10 c8 c9 c10, v = .agg #[.int .i64 D.f0, .int .i64 D.f1, .int .i64 D.f2, .int .i64 D.f3, .int .i64 D.f4, .int .i64 D.f5, .int .i64 D.f6, .int .i64 D.f7, v8, v9, v10] ∧ Aset S (3) (grIv c8 c9 c10) ∧ HeOwn c8.1 c8.2 w v8 D.f8 ∧ HeOwn c9.1 c9.2 w v9 D.f9 ∧ HeOwn c10.1 c10.2 w v10 D.f10
theorem GrOwn.reads {S : Nat → Prop} {w : World} {v : Value} {D : GrD} (h : GrOwn S w v D) : GrReads w v D := by
  obtain ⟨v8, v9, v10, c8, c9, c10, rfl, _, h8, h9, h10⟩ := h
  exact ⟨v8, v9, v10, rfl, h8.reads, h9.reads, h10.reads⟩
theorem GrOwn.mono {S S' : Nat → Prop} {w : World} {v : Value} {D : GrD} (h : GrOwn S w v D) (hs : ∀ g, S g → S' g) : GrOwn S' w v D := by
  obtain ⟨v8, v9, v10, c8, c9, c10, rfl, ha, hr⟩ := h
  exact ⟨v8, v9, v10, c8, c9, c10, rfl, ha.mono hs, hr⟩
theorem GrOwn.at {S : Nat → Prop} {w w' : World} {v : Value} {D : GrD} (h : GrOwn S w v D) (hk : ∀ g, S g → g < w.heap.size → w'.heap[g]? = w.heap[g]?) : GrOwn S w' v D := by
  obtain ⟨v8, v9, v10, c8, c9, c10, rfl, ha, h8, h9, h10⟩ := h
  have n8 := ha.inn 0 (by omega)
  have n9 := ha.inn 1 (by omega)
  have n10 := ha.inn 2 (by omega)
  exact ⟨v8, v9, v10, c8, c9, c10, rfl, ha, h8.at fun g g1 g2 g3 => hk g (n8.2 g g1 g2) g3, h9.at fun g g1 g2 g3 => hk g (n9.2 g g1 g2) g3, h10.at fun g g1 g2 g3 => hk g (n10.2 g g1 g2) g3⟩
theorem GrOwn.below {S : Nat → Prop} {w w' : World} {v : Value} {D : GrD} (h : GrOwn S w v D) (hb : Below w.heap.size w w') : GrOwn S w' v D := h.at fun g _ hg => hb.block g hg
theorem GrOwn.onlyS {S S' : Nat → Prop} {w w' : World} {v : Value} {D : GrD} (h : GrOwn S w v D) (ho : OnlyS S' w w') (hd : ∀ g, S g → S' g → False) : GrOwn S w' v D := h.at fun g h1 h2 => ho g h2 (hd g h1)
theorem GrOwn.form {S : Nat → Prop} {w : World} {v : Value} {D : GrD} (h : GrOwn S w v D) : ∃ a8 n8 k8 a9 n9 k9 a10 n10 k10, v = .agg #[.int .i64 D.f0, .int .i64 D.f1, .int .i64 D.f2, .int .i64 D.f3, .int .i64 D.f4, .int .i64 D.f5, .int .i64 D.f6, .int .i64 D.f7, .slice a8 n8 k8, .slice a9 n9 k9, .slice a10 n10 k10] := by
  obtain ⟨v8, v9, v10, c8, c9, c10, rfl, _, h8, h9, h10⟩ := h
  obtain ⟨a8, n8, k8, rfl⟩ := h8.sform
  obtain ⟨a9, n9, k9, rfl⟩ := h9.sform
  obtain ⟨a10, n10, k10, rfl⟩ := h10.sform
  exact ⟨a8, n8, k8, a9, n9, k9, a10, n10, k10, rfl⟩
theorem GrReads.below {w w' : World} {v : Value} {D : GrD} (h : GrReads w v D) (hb : Below w.heap.size w w') : GrReads w' v D := by
  obtain ⟨v8, v9, v10, rfl, h8, h9, h10⟩ := h
  exact ⟨v8, v9, v10, rfl, h8.below hb, h9.below hb, h10.below hb⟩
/-- How many numbers lie in its rows. -/
def grN (D : GrD) : Nat := 3 * D.f8.length + 3 * D.f9.length + 3 * D.f10.length
def grTot (D : GrD) : Nat := D.f8.length + D.f9.length + D.f10.length
end Go.Proofs.Ytgdclnejlhfhlan
