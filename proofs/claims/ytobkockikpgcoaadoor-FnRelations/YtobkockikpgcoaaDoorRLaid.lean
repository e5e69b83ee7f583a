/-
  From the card's condition (the table relationRows reads as the program's text lays it) to the table's cells; a world that meets it.
-/
import Derived.Test.YtobkockikpgcoaaDoorRows
import Derived.Test.YtobkockikpgcoaaDoorRelImpl
import Derived.ProofKit
import Derived.LaidMore
import Derived.OpenShut
import Derived.Laws.IdiomArrays
import Derived.Stop.Joined
namespace Go.Proofs.YtobkockikpgcoaaDoor
open Go.ChangeShapes Go.WideShapes Go.ChangeAt Go.WideMaps Go.WideElems Go.RowKit

theorem own : ownKnob Tryd.prog.godebug = none := by kernel_rfl
theorem laidOut : laidOutB Tryd.prog = true := by kernel_rfl
theorem gRel : Tryd.prog.globalNamed "loop.example/g00527/impl.relationRows" = some 1 := by kernel_rfl
theorem tRel : (Tryd.prog.globals[1]?).map (·.type) = some 94 := by kernel_rfl
theorem cells_signs : Tryd.prog.cellsOf 93 = 4 := by kernel_rfl

theorem rel_met (os : Os) (args : Array Value) : laidMetH Tryd.prog [("loop.example/g00527/impl.relationRows", Rows.laid_loop_example_g00527_impl_relationRows)] ((World.doorLaid Tryd.prog 400 os).forCall (fun _ _ => 0) ⟨#[], args, []⟩).memory :=
  laidMetH_of_parts3 (fuel := 8) (laidMet_of_run' 8 (by kernel_rfl) (by kernel_rfl)) (by kernel_rfl) (by kernel_rfl)

/-- Row i of the table, as it is laid. -/
def rowD {H : Type} (i : Nat) : DataW H := .agg [.lit (.int .i64 (signRows.getD (i * 4) 0)), .lit (.int .i64 (signRows.getD (i * 4 + 1) 0)), .lit (.int .i64 (signRows.getD (i * 4 + 2) 0)), .lit (.int .i64 (signRows.getD (i * 4 + 3) 0))]
theorem laid_rows {H : Type} : (Rows.laid_loop_example_g00527_impl_relationRows : DataW H) = .agg ((List.range 13).map rowD) := rfl

theorem one_cell {H : Type} {enc : TypeId × Value → H} {w : World} {base : Nat} {sp : Nat → Bool} {held : Bool} {fuel : Nat} {c : Value} {y : DataW H × List MemPlace} {u : Int}
    (h : DataW.trod enc Tryd.prog w base sp held fuel 3 [c] = some y) (e : y.1 = .lit (.int .i64 u)) : c = .int .i64 u := by
  obtain ⟨n, e1, e2, _⟩ := DataW.trod_int Tryd.underlying3 h
  simp at e1
  rw [e2] at e
  simp at e
  rw [e1, e]

theorem four_cells {H : Type} {enc : TypeId × Value → H} {w : World} {base : Nat} {sp : Nat → Bool} {held : Bool} {fuel : Nat} {cs : List Value} {x : DataW H × List MemPlace} {a b c d : Int}
    (h : DataW.trod enc Tryd.prog w base sp held fuel 93 cs = some x) (hl : cs.length = 4) (e : x.1 = .agg [.lit (.int .i64 a), .lit (.int .i64 b), .lit (.int .i64 c), .lit (.int .i64 d)]) :
    cs = [.int .i64 a, .int .i64 b, .int .i64 c, .int .i64 d] := by
  match cs, hl with
  | [c0, c1, c2, c3], _ =>
    obtain ⟨y0, y1, y2, y3, n, rfl, h0, h1, h2, h3⟩ := trod_array4 Tryd.underlying93 cells_int1 h
    simp only [DataW.agg.injEq, List.cons.injEq, and_true] at e
    rw [one_cell h0 e.1, one_cell h1 e.2.1, one_cell h2 e.2.2.1, one_cell h3 e.2.2.2]

set_option maxRecDepth 100000 in
theorem rtab_of_laid {W : World} (h : laidMetH Tryd.prog [("loop.example/g00527/impl.relationRows", Rows.laid_loop_example_g00527_impl_relationRows)] W) : RTab W := by
  rw [MakeChecks.laidMetH_plain _ _ _ (by kernel_rfl)] at h
  obtain ⟨ps, ⟨g0, t0, cs0, f0, p0, q0, hg0, ht0, hv0, hd0, _⟩, _⟩ := h
  obtain rfl := Option.some.inj (gRel.symm.trans hg0)
  obtain rfl := Option.some.inj (tRel.symm.trans ht0)
  obtain ⟨xs, m1, rfl, hx1, hlen, hn, hel⟩ := DataW.trod_array Tryd.underlying94 hd0
  rw [cells_signs] at hel
  have hlen' : cs0.toList.length = 52 := hlen.trans (by kernel_rfl)
  rw [laid_rows] at hx1
  simp only [Prod.mk.injEq, DataW.agg.injEq] at hx1
  have hrow : ∀ i, i < 13 → (cs0.toList.drop (i * 4)).take 4 = [.int .i64 (signRows.getD (i * 4) 0), .int .i64 (signRows.getD (i * 4 + 1) 0), .int .i64 (signRows.getD (i * 4 + 2) 0), .int .i64 (signRows.getD (i * 4 + 3) 0)] := fun i hi => by
    have e1 := hel i hi
    have hxi : xs[i]? = some xs[i] := List.getElem?_eq_getElem (by omega)
    rw [hxi] at e1
    refine four_cells e1 (by rw [List.length_take, List.length_drop, hlen']; omega) ?_
    have e2 := congrArg (fun l => l[i]?) hx1.1
    simp only [List.getElem?_map, hxi, Option.map_some, List.getElem?_range hi, Option.some.injEq] at e2
    exact e2.symm
  intro i hi
  rw [World.var?_cell hg0 hv0 i, ← Array.getElem?_toList]
  have hr := hrow (i / 4) (by omega)
  have hj := congrArg (fun l => l[i % 4]?) hr
  simp only [List.getElem?_take, List.getElem?_drop] at hj
  rw [if_pos (Nat.mod_lt _ (by decide)), show i / 4 * 4 + i % 4 = i by omega] at hj
  rw [hj]
  rcases (by omega : i % 4 = 0 ∨ i % 4 = 1 ∨ i % 4 = 2 ∨ i % 4 = 3) with e | e | e | e <;> rw [e] <;> simp only [List.getElem?_cons_zero, List.getElem?_cons_succ] <;> congr 3 <;> omega
end Go.Proofs.YtobkockikpgcoaaDoor
