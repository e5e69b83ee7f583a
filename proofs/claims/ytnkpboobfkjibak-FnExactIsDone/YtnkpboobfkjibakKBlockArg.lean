/-
  An argument that is a Block: what it reads as. Plain facts on what is handed in.
-/
import Derived.Test.YtnkpboobfkjibakKSpanSf
import Derived.Test.YtnkpboobfkjibakKSpanV
import Derived.Lib.SmallJoins
namespace Go.Proofs.Ytnkpboobfkjibak
open Go.ChangeShapes Go.WideShapes Go.Deep Go.RowKit

def BlArg (w : World) (v : Value) (D : BlD) : Prop := ∃ v3, v = .agg #[.int .i64 D.f0, .int .i64 D.f1, .string D.f2, v3] ∧ (D.f2.size ≤ maxLen) ∧ SpArgV w v3 D.f3
theorem BlArg.reads {w : World} {v : Value} {D : BlD} (h : BlArg w v D) (hl : blTot D ≤ 1048576) : BlReads w v D := by
  unfold blTot at hl
  obtain ⟨v3, rfl, _, h3⟩ := h
  exact ⟨v3, rfl, h3.reads (by omega)⟩
theorem BlArg.below {w w' : World} {v : Value} {D : BlD} (h : BlArg w v D) (hb : Below w.heap.size w w') : BlArg w' v D := by
  obtain ⟨v3, rfl, hstr, h3⟩ := h
  exact ⟨v3, rfl, hstr, h3.below hb⟩
set_option maxRecDepth 100000 in
theorem block_of {H : Type} {enc : TypeId × Value → H} {W : World} {base : Nat} {spare : Nat → Bool} {held : Bool} {r : Reach} {b0 : Nat} {v : Value} {d : DataW H} {p : List MemPlace}
    (hv : Value.okWide Try.prog W r b0 45 v) (h : DataW.Trod enc Try.prog W base spare held 45 v d p) : ∃ D : BlD, BlArg W v D := by
  obtain ⟨cs, rfl, hsz⟩ := okWide_struct Try.underlying45 hv
  rw [show Try.prog.cellsOf 45 = 4 by kernel_rfl] at hsz
  obtain ⟨l⟩ := cs
  match l, hsz with
  | [g0, g1, g2, g3], _ =>
    obtain ⟨fuel, hf⟩ := h
    obtain ⟨xs, n, _, _, _, hlen, hff⟩ := DataW.trod_struct Try.underlying45 hf
    match xs, hlen with
    | [y0, y1, y2, y3], _ =>
      have t0 := hff 0 _ rfl
      change DataW.trod enc Try.prog W base spare held n 3 (List.take (Try.prog.cellsOf 3) (List.drop 0 [g0, g1, g2, g3])) = some y0 at t0
      rw [show Try.prog.cellsOf 3 = 1 by kernel_rfl] at t0
      change DataW.trod enc Try.prog W base spare held n 3 [g0] = some y0 at t0
      obtain ⟨z0, e0, _, _⟩ := DataW.trod_int (k := .i64) Try.underlying3 t0
      simp only [List.cons.injEq, and_true] at e0
      have t1 := hff 1 _ rfl
      change DataW.trod enc Try.prog W base spare held n 3 (List.take (Try.prog.cellsOf 3) (List.drop 1 [g0, g1, g2, g3])) = some y1 at t1
      rw [show Try.prog.cellsOf 3 = 1 by kernel_rfl] at t1
      change DataW.trod enc Try.prog W base spare held n 3 [g1] = some y1 at t1
      obtain ⟨z1, e1, _, _⟩ := DataW.trod_int (k := .i64) Try.underlying3 t1
      simp only [List.cons.injEq, and_true] at e1
      have t2 := hff 2 _ rfl
      change DataW.trod enc Try.prog W base spare held n 9 (List.take (Try.prog.cellsOf 9) (List.drop 2 [g0, g1, g2, g3])) = some y2 at t2
      rw [show Try.prog.cellsOf 9 = 1 by kernel_rfl] at t2
      change DataW.trod enc Try.prog W base spare held n 9 [g2] = some y2 at t2
      obtain ⟨z2, e2, _, m2⟩ := DataW.trod_string Try.underlying9 t2
      simp only [List.cons.injEq, and_true] at e2
      have t3 := hff 3 _ rfl
      change DataW.trod enc Try.prog W base spare held n 43 (List.take (Try.prog.cellsOf 43) (List.drop 3 [g0, g1, g2, g3])) = some y3 at t3
      rw [show Try.prog.cellsOf 43 = 1 by kernel_rfl] at t3
      change DataW.trod enc Try.prog W base spare held n 43 [g3] = some y3 at t3
      obtain ⟨z3, w3⟩ := spargV_of t3
      exact ⟨⟨z0, z1, z2, z3⟩, _, by rw [e0, e1, e2], m2, w3⟩
end Go.Proofs.Ytnkpboobfkjibak
