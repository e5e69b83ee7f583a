/-
  An argument that is a Shares: what it reads as. Plain facts on what is handed in.
-/
import Derived.Test.YtepnhbicmlfnhahKSharesRows
import Derived.Test.YtepnhbicmlfnhahKArgV
import Derived.Lib.SmallJoins
namespace Go.Proofs.Ytepnhbicmlfnhah
open Go.ChangeShapes Go.WideShapes Go.Deep Go.RowKit

def ShArg (w : World) (v : Value) (D : ShD) : Prop := ∃ v0, v = .agg #[v0, .int .i64 D.f1] ∧ KArgV w v0 D.f0
theorem ShArg.reads {w : World} {v : Value} {D : ShD} (h : ShArg w v D) (hl : shTot D ≤ 1048576) : ShReads w v D := by
  unfold shTot at hl
  obtain ⟨v0, rfl, h0⟩ := h
  exact ⟨v0, rfl, h0.reads (by omega)⟩
theorem ShArg.below {w w' : World} {v : Value} {D : ShD} (h : ShArg w v D) (hb : Below w.heap.size w w') : ShArg w' v D := by
  obtain ⟨v0, rfl, h0⟩ := h
  exact ⟨v0, rfl, h0.below hb⟩
set_option maxRecDepth 100000 in
theorem shares_of {H : Type} {enc : TypeId × Value → H} {W : World} {base : Nat} {spare : Nat → Bool} {held : Bool} {r : Reach} {b0 : Nat} {v : Value} {d : DataW H} {p : List MemPlace}
    (hv : Value.okWide Try.prog W r b0 24 v) (h : DataW.Trod enc Try.prog W base spare held 24 v d p) : ∃ D : ShD, ShArg W v D := by
  obtain ⟨cs, rfl, hsz⟩ := okWide_struct Try.underlying24 hv
  rw [show Try.prog.cellsOf 24 = 2 by kernel_rfl] at hsz
  obtain ⟨l⟩ := cs
  match l, hsz with
  | [g0, g1], _ =>
    obtain ⟨fuel, hf⟩ := h
    obtain ⟨xs, n, _, _, _, hlen, hff⟩ := DataW.trod_struct Try.underlying24 hf
    match xs, hlen with
    | [y0, y1], _ =>
      have t0 := hff 0 _ rfl
      change DataW.trod enc Try.prog W base spare held n 22 (List.take (Try.prog.cellsOf 22) (List.drop 0 [g0, g1])) = some y0 at t0
      rw [show Try.prog.cellsOf 22 = 1 by kernel_rfl] at t0
      change DataW.trod enc Try.prog W base spare held n 22 [g0] = some y0 at t0
      obtain ⟨z0, w0⟩ := kargV_of t0
      have t1 := hff 1 _ rfl
      change DataW.trod enc Try.prog W base spare held n 3 (List.take (Try.prog.cellsOf 3) (List.drop 1 [g0, g1])) = some y1 at t1
      rw [show Try.prog.cellsOf 3 = 1 by kernel_rfl] at t1
      change DataW.trod enc Try.prog W base spare held n 3 [g1] = some y1 at t1
      obtain ⟨z1, e1, _, _⟩ := DataW.trod_int (k := .i64) Try.underlying3 t1
      simp only [List.cons.injEq, and_true] at e1
      exact ⟨⟨z0, z1⟩, _, by rw [e1], w0⟩
end Go.Proofs.Ytepnhbicmlfnhah
