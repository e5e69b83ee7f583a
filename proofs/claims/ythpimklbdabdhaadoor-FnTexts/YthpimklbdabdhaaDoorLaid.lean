/-
  From the card's condition (the table sizeRows reads as the program's text lays it) to the table's eight cells; a world that meets it.
-/
import Derived.Test.YthpimklbdabdhaaDoorRows
import Derived.Test.YthpimklbdabdhaaDoorSize
import Derived.ProofKit
import Derived.LaidMore
import Derived.OpenShut
import Derived.Stop.Joined
namespace Go.Proofs.YthpimklbdabdhaaDoor
open Go.ChangeShapes Go.WideShapes Go.ChangeAt Go.WideMaps Go.WideElems Go.RowKit

theorem own : ownKnob Tryd.prog.godebug = none := by kernel_rfl
theorem laidOut : laidOutB Tryd.prog = true := by kernel_rfl
theorem gRows : Tryd.prog.globalNamed "loop.example/g00527/impl.sizeRows" = some 0 := by kernel_rfl
theorem tRows : (Tryd.prog.globals[0]?).map (·.type) = some 50 := by kernel_rfl
theorem cells_int : Tryd.prog.cellsOf 3 = 1 := by kernel_rfl
theorem cells_row : Tryd.prog.cellsOf 49 = 2 := by kernel_rfl
theorem cells_rows : Tryd.prog.cellsOf 50 = 8 := by kernel_rfl

/-- What the walk is told of a slice of integers that came in. -/
def IsRow (k : IntKind) (w : World) (a : Option Addr) (len cap : Nat) (zs : List Int) : Prop :=
  (a = none ∧ len = 0 ∧ cap = 0 ∧ zs = []) ∨
  ∃ x, a = some x ∧ len ≤ cap ∧ cap ≤ maxLen ∧ zs.length = cap ∧ (∀ i, i < zs.length → w.cell? (x.add i) = some (.int k (zs.getD i 0))) ∧ ∀ n ∈ zs, (Lit.int k n).wf = true

theorem door_met (os : Os) (args : Array Value) : laidMetH Tryd.prog [("loop.example/g00527/impl.sizeRows", Rows.laid_loop_example_g00527_impl_sizeRows)] ((World.doorLaid Tryd.prog 400 os).forCall (fun _ _ => 0) ⟨#[], args, []⟩).memory :=
  laidMetH_of_parts3 (fuel := 8) (laidMet_of_run' 8 (by kernel_rfl) (by kernel_rfl)) (by kernel_rfl) (by kernel_rfl)

theorem int_cell {H : Type} {enc : TypeId × Value → H} {w : World} {base : Nat} {sp : Nat → Bool} {held : Bool} {fuel : Nat} {c : Value} {y : DataW H × List MemPlace}
    (h : DataW.trod enc Tryd.prog w base sp held fuel 3 [c] = some y) : ∃ n, c = .int .i64 n ∧ y.1 = .lit (.int .i64 n) := by
  obtain ⟨n, e1, e2, _⟩ := DataW.trod_int Tryd.underlying3 h
  simp at e1
  exact ⟨n, e1, by rw [e2]⟩

theorem pair_of {H : Type} {enc : TypeId × Value → H} {w : World} {base : Nat} {sp : Nat → Bool} {held : Bool} {fuel : Nat} {a b : Value} {x : DataW H × List MemPlace} {u v : Int}
    (h : DataW.trod enc Tryd.prog w base sp held fuel 49 [a, b] = some x) (e : DataW.agg [.lit (.int .i64 u), .lit (.int .i64 v)] = x.1) : a = .int .i64 u ∧ b = .int .i64 v := by
  obtain ⟨y0, y1, n, rfl, _, h0, h1⟩ := trod_struct2 Tryd.underlying49 h
  simp only [cells_int] at h0 h1
  obtain ⟨u', rfl, hu⟩ := int_cell (c := a) (by simpa using h0)
  obtain ⟨v', rfl, hv⟩ := int_cell (c := b) (by simpa using h1)
  rw [hu, hv] at e
  simp at e
  exact ⟨by rw [e.1], by rw [e.2]⟩

theorem tab_of_laid {W : World} (h : laidMetH Tryd.prog [("loop.example/g00527/impl.sizeRows", Rows.laid_loop_example_g00527_impl_sizeRows)] W) : Tab W := by
  rw [MakeChecks.laidMetH_plain _ _ _ (by kernel_rfl)] at h
  obtain ⟨ps, ⟨g0, t0, cs0, f0, p0, q0, hg0, ht0, hv0, hd0, _⟩, _⟩ := h
  obtain rfl := Option.some.inj (gRows.symm.trans hg0)
  obtain rfl := Option.some.inj (tRows.symm.trans ht0)
  obtain ⟨xs, m1, rfl, hx1, hlen, hn4, hel⟩ := DataW.trod_array Tryd.underlying50 hd0
  rw [cells_rows] at hlen
  rw [cells_row] at hel
  obtain ⟨l⟩ := cs0
  match l, hlen with
  | [c0, c1, c2, c3, c4, c5, c6, c7], _ =>
  match xs, hn4 with
  | [x0, x1, x2, x3], _ =>
  simp only [Rows.laid_loop_example_g00527_impl_sizeRows, Prod.mk.injEq, DataW.agg.injEq, List.map_cons, List.map_nil, List.cons.injEq] at hx1
  obtain ⟨⟨e0, e1, e2, e3, _⟩, _⟩ := hx1
  obtain ⟨k0, k1⟩ := pair_of (a := c0) (b := c1) (by simpa using hel 0 (by decide)) e0
  obtain ⟨k2, k3⟩ := pair_of (a := c2) (b := c3) (by simpa using hel 1 (by decide)) e1
  obtain ⟨k4, k5⟩ := pair_of (a := c4) (b := c5) (by simpa using hel 2 (by decide)) e2
  obtain ⟨k6, k7⟩ := pair_of (a := c6) (b := c7) (by simpa using hel 3 (by decide)) e3
  subst k0 k1 k2 k3 k4 k5 k6 k7
  have hc := fun j => World.var?_cell hg0 hv0 j
  exact ⟨hc 0, hc 1, hc 2, hc 3, hc 4, hc 5, hc 6, hc 7⟩
end Go.Proofs.YthpimklbdabdhaaDoor
