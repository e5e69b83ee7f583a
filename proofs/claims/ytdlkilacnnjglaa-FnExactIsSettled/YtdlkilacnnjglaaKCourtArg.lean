/-
  An argument that is a Court: what it reads as. Plain facts on what is handed in.
-/
import Derived.Test.YtdlkilacnnjglaaKCourtRows
import Derived.Test.YtdlkilacnnjglaaKCaseV
import Derived.Test.YtdlkilacnnjglaaKSlipV
import Derived.Lib.SmallJoins
namespace Go.Proofs.Ytdlkilacnnjglaa
open Go.ChangeShapes Go.WideShapes Go.Deep Go.RowKit

def CoArg (w : World) (v : Value) (D : CoD) : Prop := ∃ v1 v2, v = .agg #[.int .i64 D.f0, v1, v2] ∧ CaArgV w v1 D.f1 ∧ SlArgV w v2 D.f2
theorem CoArg.reads {w : World} {v : Value} {D : CoD} (h : CoArg w v D) (hl : coTot D ≤ 1048576) : CoReads w v D := by
  unfold coTot at hl
  obtain ⟨v1, v2, rfl, h1, h2⟩ := h
  exact ⟨v1, v2, rfl, h1.reads (by omega), h2.reads (by omega)⟩
theorem CoArg.below {w w' : World} {v : Value} {D : CoD} (h : CoArg w v D) (hb : Below w.heap.size w w') : CoArg w' v D := by
  obtain ⟨v1, v2, rfl, h1, h2⟩ := h
  exact ⟨v1, v2, rfl, h1.below hb, h2.below hb⟩
set_option maxRecDepth 100000 in
theorem court_of {H : Type} {enc : TypeId × Value → H} {W : World} {base : Nat} {spare : Nat → Bool} {held : Bool} {r : Reach} {b0 : Nat} {v : Value} {d : DataW H} {p : List MemPlace}
    (hv : Value.okWide Try.prog W r b0 38 v) (h : DataW.Trod enc Try.prog W base spare held 38 v d p) : ∃ D : CoD, CoArg W v D := by
  obtain ⟨cs, rfl, hsz⟩ := okWide_struct Try.underlying38 hv
  rw [show Try.prog.cellsOf 38 = 3 by kernel_rfl] at hsz
  obtain ⟨l⟩ := cs
  match l, hsz with
  | [g0, g1, g2], _ =>
    obtain ⟨fuel, hf⟩ := h
    obtain ⟨xs, n, _, _, _, hlen, hff⟩ := DataW.trod_struct Try.underlying38 hf
    match xs, hlen with
    | [y0, y1, y2], _ =>
      have t0 := hff 0 _ rfl
      change DataW.trod enc Try.prog W base spare held n 3 (List.take (Try.prog.cellsOf 3) (List.drop 0 [g0, g1, g2])) = some y0 at t0
      rw [show Try.prog.cellsOf 3 = 1 by kernel_rfl] at t0
      change DataW.trod enc Try.prog W base spare held n 3 [g0] = some y0 at t0
      obtain ⟨z0, e0, _, _⟩ := DataW.trod_int (k := .i64) Try.underlying3 t0
      simp only [List.cons.injEq, and_true] at e0
      have t1 := hff 1 _ rfl
      change DataW.trod enc Try.prog W base spare held n 35 (List.take (Try.prog.cellsOf 35) (List.drop 1 [g0, g1, g2])) = some y1 at t1
      rw [show Try.prog.cellsOf 35 = 1 by kernel_rfl] at t1
      change DataW.trod enc Try.prog W base spare held n 35 [g1] = some y1 at t1
      obtain ⟨z1, w1⟩ := caargV_of t1
      have t2 := hff 2 _ rfl
      change DataW.trod enc Try.prog W base spare held n 36 (List.take (Try.prog.cellsOf 36) (List.drop 2 [g0, g1, g2])) = some y2 at t2
      rw [show Try.prog.cellsOf 36 = 1 by kernel_rfl] at t2
      change DataW.trod enc Try.prog W base spare held n 36 [g2] = some y2 at t2
      obtain ⟨z2, w2⟩ := slargV_of t2
      exact ⟨⟨z0, z1, z2⟩, _, _, by rw [e0], w1, w2⟩
end Go.Proofs.Ytdlkilacnnjglaa
