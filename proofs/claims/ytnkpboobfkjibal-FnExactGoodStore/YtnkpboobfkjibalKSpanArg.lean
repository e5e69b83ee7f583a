/-
  An argument that is a slice of Span, or one Span: what it reads as. Plain facts on what is handed in.
  An argument that is a slice of Span, as a cell holds it: what it reads as. Plain facts on what is handed in.
  laws.szSpanS: what is left of a bound behind a list's length. Nothing is written.
-/
import Derived.Test.YtnkpboobfkjibalKSpanRows
import Derived.Lib.SmallJoins
import Derived.Deep.SlicePairs
set_option maxRecDepth 100000
namespace Go.Proofs.Ytnkpboobfkjibal
open Go.ChangeShapes Go.WideShapes Go.Deep

theorem span_of {H : Type} {enc : TypeId × Value → H} {W : World} {base : Nat} {spare : Nat → Bool} {held : Bool} {r : Reach} {b0 : Nat} {v : Value} {d : DataW H} {p : List MemPlace}
    (hv : Value.okWide Try.prog W r b0 77 v) (h : DataW.Trod enc Try.prog W base spare held 77 v d p) : ∃ x : SpEl, v = (.agg #[.int .i64 x.1, .int .i64 x.2]) := by
  obtain ⟨v0, v1, y0, y1, n, rfl, _, _, h0, h1⟩ := Go.Joins.open_agg2 Try.underlying77 (by kernel_rfl) (by kernel_rfl) hv h
  obtain ⟨z0, e0, _, _⟩ := DataW.trod_int (k := .i64) Try.underlying3 h0
  obtain ⟨z1, e1, _, _⟩ := DataW.trod_int (k := .i64) Try.underlying3 h1
  simp only [List.cons.injEq, and_true] at e0 e1
  exact ⟨(z0, z1), by rw [e0, e1]⟩
/-- The slice reads as xs, however long it is. -/
def SpArg (w : World) (a : Option Addr) (len cap : Nat) (xs : List SpEl) : Prop :=
  xs.length = len ∧ len ≤ cap ∧ cap ≤ maxLen ∧ (xs = [] ∨ ∃ b off, a = some ⟨b, off, none⟩ ∧ ∀ i, i < xs.length → SpCells w b (off + i * 2) (xs.getD i (0, 0)))
theorem SpArg.reads {w : World} {a : Option Addr} {len cap : Nat} {xs : List SpEl} (h : SpArg w a len cap xs) (hl : len ≤ 1048576) : SpReads w (.slice a len cap) xs := by
  obtain ⟨rfl, h1, _, h⟩ := h
  exact ⟨a, cap, rfl, by omega, h⟩
set_option maxRecDepth 100000 in
theorem sparg_of {H : Type} {enc : TypeId × Value → H} {W : World} {base : Nat} {spare : Nat → Bool} {held : Bool} {a : Option Addr} {len cap : Nat} {d : DataW H} {p : List MemPlace}
    (h : DataW.Trod enc Try.prog W base spare held 51 (.slice a len cap) d p) : ∃ xs, SpArg W a len cap xs := by
  obtain ⟨fuel, hf⟩ := h
  rcases open_slice Try.underlying51 hf with ⟨hcs, _⟩ | ⟨x, l, c, m, n, D, Pl, hcs, _, hl, hm, hmm, _, hx⟩
  · simp [Value.cells] at hcs
    obtain ⟨rfl, rfl, rfl⟩ := hcs
    exact ⟨[], rfl, by simp, by simp, .inl rfl⟩
  · simp [Value.cells] at hcs
    obtain ⟨rfl, rfl, rfl⟩ := hcs
    have hlm : len ≤ m := by rw [hmm]; split <;> omega
    have ce : Try.prog.cellsOf 77 = 2 := by kernel_rfl
    have each : ∀ i, i < len → ∃ q : SpEl, W.cell? (x.add (i * 2)) = some (.int .i64 q.1) ∧ W.cell? (x.add (i * 2 + 1)) = some (.int .i64 q.2) := fun i hi => by
      obtain ⟨cs', h1, h2⟩ := hx i (by omega)
      rw [ce] at h1
      obtain ⟨_, hlen, hcell⟩ := World.cells?_some h1
      obtain ⟨xs, k, hk, hxy, _, hxl, hf⟩ := DataW.trod_struct Try.underlying77 h2
      match xs, hxl, cs', hlen with
      | [y0, y1], _, [v0, v1], _ =>
        have g0 : DataW.trod enc Try.prog W base spare held k 3 [v0] = some y0 := hf 0 _ rfl
        obtain ⟨z0, e0, _, _⟩ := DataW.trod_int (k := .i64) Try.underlying3 g0
        simp only [List.cons.injEq, and_true] at e0
        have c0 := hcell 0 (by omega)
        rw [add_add] at c0
        have g1 : DataW.trod enc Try.prog W base spare held k 3 [v1] = some y1 := hf 1 _ rfl
        obtain ⟨z1, e1, _, _⟩ := DataW.trod_int (k := .i64) Try.underlying3 g1
        simp only [List.cons.injEq, and_true] at e1
        have c1 := hcell 1 (by omega)
        rw [add_add] at c1
        exact ⟨(z0, z1), by rw [← e0]; simpa using c0, by rw [← e1]; simpa using c1⟩
    obtain ⟨q, hq⟩ := choose_lt each
    have hg : ∀ i, i < len → ((List.range len).map q).getD i (0, 0) = q i := fun i hi => by simp [List.getD_eq_getElem?_getD, hi]
    refine ⟨(List.range len).map q, by simp, hl, hm, ?_⟩
    by_cases h0 : len = 0
    · left; subst h0; rfl
    · right
      obtain ⟨b, off, spot⟩ := x
      have hspot : spot = none := by
        have := (hq 0 (by omega)).1
        simpa [Addr.add] using World.cell?_spot this
      subst hspot
      refine ⟨b, off, rfl, fun i hi => ?_⟩
      have hi' : i < len := by simpa using hi
      have hqi := hq i hi'
      rw [hg i hi']
      refine ⟨?_, ?_⟩
      · rcases i with _ | i <;> simpa [Addr.add, Nat.add_assoc] using hqi.1
      · rcases i with _ | i <;> simpa [Addr.add, Nat.add_assoc] using hqi.2
end Go.Proofs.Ytnkpboobfkjibal
namespace Go.Proofs.Ytnkpboobfkjibal
open Go.ChangeShapes Go.WideShapes Go.Deep Go.RowKit

def SpArgV (w : World) (v : Value) (xs : List SpEl) : Prop := ∃ a len cap, v = .slice a len cap ∧ SpArg w a len cap xs
theorem SpArgV.reads {w : World} {v : Value} {xs : List SpEl} (h : SpArgV w v xs) (hl : xs.length ≤ 1048576) : SpReads w v xs := by
  obtain ⟨a, len, cap, rfl, h⟩ := h
  exact h.reads (by rw [← h.1]; exact hl)
theorem SpArgV.form {w : World} {v : Value} {xs : List SpEl} (h : SpArgV w v xs) : ∃ a cap, v = .slice a xs.length cap ∧ xs.length ≤ maxLen := by
  obtain ⟨a, len, cap, rfl, h⟩ := h
  exact ⟨a, cap, by rw [h.1], by rw [h.1]; exact Nat.le_trans h.2.1 h.2.2.1⟩
theorem SpArgV.below {w w' : World} {v : Value} {xs : List SpEl} (h : SpArgV w v xs) (hb : Below w.heap.size w w') : SpArgV w' v xs := by
  obtain ⟨a, len, cap, rfl, h1, h2, h3, h4⟩ := h
  refine ⟨a, len, cap, rfl, h1, h2, h3, ?_⟩
  rcases h4 with h4 | ⟨b, off, e, hc⟩
  · exact .inl h4
  · exact .inr ⟨b, off, e, fun i hi => (hc i hi).of_block (hb.block b (hc i hi).lt)⟩
set_option maxRecDepth 100000 in
theorem spargV_of {H : Type} {enc : TypeId × Value → H} {W : World} {base : Nat} {spare : Nat → Bool} {held : Bool} {fuel : Nat} {v : Value} {y : DataW H × List MemPlace}
    (h : DataW.trod enc Try.prog W base spare held fuel 51 [v] = some y) : ∃ xs, SpArgV W v xs := by
  have hv : ∃ a len cap, v = .slice a len cap := by
    rcases open_slice Try.underlying51 h with ⟨hcs, _⟩ | ⟨x, l, c, m, n, D, Pl, hcs, _⟩
    · simp only [List.cons.injEq, and_true] at hcs
      exact ⟨_, _, _, hcs⟩
    · simp only [List.cons.injEq, and_true] at hcs
      exact ⟨_, _, _, hcs⟩
  obtain ⟨a, len, cap, rfl⟩ := hv
  obtain ⟨xs, hx⟩ := sparg_of (H := H) (enc := enc) (base := base) (spare := spare) (held := held) (d := y.1) (p := y.2) ⟨fuel, by simpa [Value.cells] using h⟩
  exact ⟨xs, a, len, cap, rfl, hx⟩
end Go.Proofs.Ytnkpboobfkjibal
namespace Go.Proofs.Ytnkpboobfkjibal
open Go.RowKit

set_option maxHeartbeats 2000000 in
theorem szSpanS_any (v : Value) (xs : List SpEl) (w : World) (h : SpArgV w v xs) (l : Int) (h0 : 0 ≤ l) (h1 : l ≤ 1048576) :
    Calls Try.prog 38 #[v, .int .i64 l] w fun e w' => ∃ r : Int, e = .returned (.int .i64 r) ∧ ((r = -1 ∨ r = l - (xs.length : Nat)) ∧ (0 ≤ r → (xs.length : Nat) ≤ l) ∧ -1 ≤ r ∧ r ≤ l) ∧ w' = w := by
  obtain ⟨a, cap, rfl, hm⟩ := h.form
  unfold maxLen at hm
  have hw : IntKind.i64.wrap (l - (xs.length : Int)) = l - xs.length := by rw [IntKind.wrap_i64]; omega
  clear h
  by_cases hl : l - (xs.length : Int) < 0
  · have hd : decide (l - (xs.length : Int) < 0) = true := by simpa using hl
    go_enter Try.func38, Try.ntmps38
    go_wp2
    go_ret
    exact ⟨-1, rfl, ⟨.inl rfl, by omega, by omega, by omega⟩, rfl⟩
  · have hd : decide (l - (xs.length : Int) < 0) = false := by simpa using hl
    go_enter Try.func38, Try.ntmps38
    go_wp2
    go_ret
    exact ⟨_, rfl, ⟨.inr rfl, by omega, by omega, by omega⟩, rfl⟩
end Go.Proofs.Ytnkpboobfkjibal
