/-
  An argument that is a Greet: what it reads as. Plain facts on what is handed in.
-/
import Derived.Test.YtgdclnejlhfhlanKGreetRows
import Derived.Test.YtgdclnejlhfhlanKHelloV
import Derived.Lib.SmallJoins
namespace Go.Proofs.Ytgdclnejlhfhlan
open Go.ChangeShapes Go.WideShapes Go.Deep Go.RowKit

def GrArg (w : World) (v : Value) (D : GrD) : Prop := ∃ v8 v9 v10, v = .agg #[.int .i64 D.f0, .int .i64 D.f1, .int .i64 D.f2, .int .i64 D.f3, .int .i64 D.f4, .int .i64 D.f5, .int .i64 D.f6, .int .i64 D.f7, v8, v9, v10] ∧ HeArgV w v8 D.f8 ∧ HeArgV w v9 D.f9 ∧ HeArgV w v10 D.f10
theorem GrArg.reads {w : World} {v : Value} {D : GrD} (h : GrArg w v D) (hl : grTot D ≤ 1048576) : GrReads w v D := by
  unfold grTot at hl
  obtain ⟨v8, v9, v10, rfl, h8, h9, h10⟩ := h
  exact ⟨v8, v9, v10, rfl, h8.reads (by omega), h9.reads (by omega), h10.reads (by omega)⟩
theorem GrArg.below {w w' : World} {v : Value} {D : GrD} (h : GrArg w v D) (hb : Below w.heap.size w w') : GrArg w' v D := by
  obtain ⟨v8, v9, v10, rfl, h8, h9, h10⟩ := h
  exact ⟨v8, v9, v10, rfl, h8.below hb, h9.below hb, h10.below hb⟩
set_option maxRecDepth 100000 in
theorem greet_of {H : Type} {enc : TypeId × Value → H} {W : World} {base : Nat} {spare : Nat → Bool} {held : Bool} {r : Reach} {b0 : Nat} {v : Value} {d : DataW H} {p : List MemPlace}
    (hv : Value.okWide Try.prog W r b0 24 v) (h : DataW.Trod enc Try.prog W base spare held 24 v d p) : ∃ D : GrD, GrArg W v D := by
  obtain ⟨cs, rfl, hsz⟩ := okWide_struct Try.underlying24 hv
  rw [show Try.prog.cellsOf 24 = 11 by kernel_rfl] at hsz
  obtain ⟨l⟩ := cs
  match l, hsz with
  | [g0, g1, g2, g3, g4, g5, g6, g7, g8, g9, g10], _ =>
    obtain ⟨fuel, hf⟩ := h
    obtain ⟨xs, n, _, _, _, hlen, hff⟩ := DataW.trod_struct Try.underlying24 hf
    match xs, hlen with
    | [y0, y1, y2, y3, y4, y5, y6, y7, y8, y9, y10], _ =>
      have t0 := hff 0 _ rfl
      change DataW.trod enc Try.prog W base spare held n 3 (List.take (Try.prog.cellsOf 3) (List.drop 0 [g0, g1, g2, g3, g4, g5, g6, g7, g8, g9, g10])) = some y0 at t0
      rw [show Try.prog.cellsOf 3 = 1 by kernel_rfl] at t0
      change DataW.trod enc Try.prog W base spare held n 3 [g0] = some y0 at t0
      obtain ⟨z0, e0, _, _⟩ := DataW.trod_int (k := .i64) Try.underlying3 t0
      simp only [List.cons.injEq, and_true] at e0
      have t1 := hff 1 _ rfl
      change DataW.trod enc Try.prog W base spare held n 3 (List.take (Try.prog.cellsOf 3) (List.drop 1 [g0, g1, g2, g3, g4, g5, g6, g7, g8, g9, g10])) = some y1 at t1
      rw [show Try.prog.cellsOf 3 = 1 by kernel_rfl] at t1
      change DataW.trod enc Try.prog W base spare held n 3 [g1] = some y1 at t1
      obtain ⟨z1, e1, _, _⟩ := DataW.trod_int (k := .i64) Try.underlying3 t1
      simp only [List.cons.injEq, and_true] at e1
      have t2 := hff 2 _ rfl
      change DataW.trod enc Try.prog W base spare held n 3 (List.take (Try.prog.cellsOf 3) (List.drop 2 [g0, g1, g2, g3, g4, g5, g6, g7, g8, g9, g10])) = some y2 at t2
      rw [show Try.prog.cellsOf 3 = 1 by kernel_rfl] at t2
      change DataW.trod enc Try.prog W base spare held n 3 [g2] = some y2 at t2
      obtain ⟨z2, e2, _, _⟩ := DataW.trod_int (k := .i64) Try.underlying3 t2
      simp only [List.cons.injEq, and_true] at e2
      have t3 := hff 3 _ rfl
      change DataW.trod enc Try.prog W base spare held n 3 (List.take (Try.prog.cellsOf 3) (List.drop 3 [g0, g1, g2, g3, g4, g5, g6, g7, g8, g9, g10])) = some y3 at t3
      rw [show Try.prog.cellsOf 3 = 1 by kernel_rfl] at t3
      change DataW.trod enc Try.prog W base spare held n 3 [g3] = some y3 at t3
      obtain ⟨z3, e3, _, _⟩ := DataW.trod_int (k := .i64) Try.underlying3 t3
      simp only [List.cons.injEq, and_true] at e3
      have t4 := hff 4 _ rfl
      change DataW.trod enc Try.prog W base spare held n 3 (List.take (Try.prog.cellsOf 3) (List.drop 4 [g0, g1, g2, g3, g4, g5, g6, g7, g8, g9, g10])) = some y4 at t4
      rw [show Try.prog.cellsOf 3 = 1 by kernel_rfl] at t4
      change DataW.trod enc Try.prog W base spare held n 3 [g4] = some y4 at t4
      obtain ⟨z4, e4, _, _⟩ := DataW.trod_int (k := .i64) Try.underlying3 t4
      simp only [List.cons.injEq, and_true] at e4
      have t5 := hff 5 _ rfl
      change DataW.trod enc Try.prog W base spare held n 3 (List.take (Try.prog.cellsOf 3) (List.drop 5 [g0, g1, g2, g3, g4, g5, g6, g7, g8, g9, g10])) = some y5 at t5
      rw [show Try.prog.cellsOf 3 = 1 by kernel_rfl] at t5
      change DataW.trod enc Try.prog W base spare held n 3 [g5] = some y5 at t5
      obtain ⟨z5, e5, _, _⟩ := DataW.trod_int (k := .i64) Try.underlying3 t5
      simp only [List.cons.injEq, and_true] at e5
      have t6 := hff 6 _ rfl
      change DataW.trod enc Try.prog W base spare held n 3 (List.take (Try.prog.cellsOf 3) (List.drop 6 [g0, g1, g2, g3, g4, g5, g6, g7, g8, g9, g10])) = some y6 at t6
      rw [show Try.prog.cellsOf 3 = 1 by kernel_rfl] at t6
      change DataW.trod enc Try.prog W base spare held n 3 [g6] = some y6 at t6
      obtain ⟨z6, e6, _, _⟩ := DataW.trod_int (k := .i64) Try.underlying3 t6
      simp only [List.cons.injEq, and_true] at e6
      have t7 := hff 7 _ rfl
      change DataW.trod enc Try.prog W base spare held n 3 (List.take (Try.prog.cellsOf 3) (List.drop 7 [g0, g1, g2, g3, g4, g5, g6, g7, g8, g9, g10])) = some y7 at t7
      rw [show Try.prog.cellsOf 3 = 1 by kernel_rfl] at t7
      change DataW.trod enc Try.prog W base spare held n 3 [g7] = some y7 at t7
      obtain ⟨z7, e7, _, _⟩ := DataW.trod_int (k := .i64) Try.underlying3 t7
      simp only [List.cons.injEq, and_true] at e7
      have t8 := hff 8 _ rfl
      change DataW.trod enc Try.prog W base spare held n 22 (List.take (Try.prog.cellsOf 22) (List.drop 8 [g0, g1, g2, g3, g4, g5, g6, g7, g8, g9, g10])) = some y8 at t8
      rw [show Try.prog.cellsOf 22 = 1 by kernel_rfl] at t8
      change DataW.trod enc Try.prog W base spare held n 22 [g8] = some y8 at t8
      obtain ⟨z8, w8⟩ := heargV_of t8
      have t9 := hff 9 _ rfl
      change DataW.trod enc Try.prog W base spare held n 22 (List.take (Try.prog.cellsOf 22) (List.drop 9 [g0, g1, g2, g3, g4, g5, g6, g7, g8, g9, g10])) = some y9 at t9
      rw [show Try.prog.cellsOf 22 = 1 by kernel_rfl] at t9
      change DataW.trod enc Try.prog W base spare held n 22 [g9] = some y9 at t9
      obtain ⟨z9, w9⟩ := heargV_of t9
      have t10 := hff 10 _ rfl
      change DataW.trod enc Try.prog W base spare held n 22 (List.take (Try.prog.cellsOf 22) (List.drop 10 [g0, g1, g2, g3, g4, g5, g6, g7, g8, g9, g10])) = some y10 at t10
      rw [show Try.prog.cellsOf 22 = 1 by kernel_rfl] at t10
      change DataW.trod enc Try.prog W base spare held n 22 [g10] = some y10 at t10
      obtain ⟨z10, w10⟩ := heargV_of t10
      exact ⟨⟨z0, z1, z2, z3, z4, z5, z6, z7, z8, z9, z10⟩, _, _, _, by rw [e0, e1, e2, e3, e4, e5, e6, e7], w8, w9, w10⟩
end Go.Proofs.Ytgdclnejlhfhlan
