/-
  An argument that is a slice of Slip, or one Slip: what it reads as. Plain facts on what is handed in.
-/
import Derived.Test.YtdlkilacnnjglaaKSlipRows
import Derived.Lib.SmallJoins
import Derived.Deep.SlicePairs
namespace Go.Proofs.Ytdlkilacnnjglaa
open Go.ChangeShapes Go.WideShapes Go.Deep

set_option maxRecDepth 100000 in
theorem slip_of {H : Type} {enc : TypeId × Value → H} {W : World} {base : Nat} {spare : Nat → Bool} {held : Bool} {r : Reach} {b0 : Nat} {v : Value} {d : DataW H} {p : List MemPlace}
    (hv : Value.okWide Try.prog W r b0 108 v) (h : DataW.Trod enc Try.prog W base spare held 108 v d p) : ∃ x : SlEl, v = (.agg #[.int .i64 x.1, .int .i64 x.2.1, .int .i64 x.2.2]) := by
  obtain ⟨v0, v1, v2, y0, y1, y2, n, rfl, _, _, h0, h1, h2⟩ := Go.Joins.open_agg3 Try.underlying108 (by kernel_rfl) (by kernel_rfl) hv h
  obtain ⟨z0, e0, _, _⟩ := DataW.trod_int (k := .i64) Try.underlying3 h0
  obtain ⟨z1, e1, _, _⟩ := DataW.trod_int (k := .i64) Try.underlying3 h1
  obtain ⟨z2, e2, _, _⟩ := DataW.trod_int (k := .i64) Try.underlying3 h2
  simp only [List.cons.injEq, and_true] at e0 e1 e2
  exact ⟨(z0, z1, z2), by rw [e0, e1, e2]⟩
/-- The slice reads as xs, however long it is. -/
def SlArg (w : World) (a : Option Addr) (len cap : Nat) (xs : List SlEl) : Prop :=
  xs.length = len ∧ len ≤ cap ∧ cap ≤ maxLen ∧ (xs = [] ∨ ∃ b off, a = some ⟨b, off, none⟩ ∧ ∀ i, i < xs.length → SlCells w b (off + i * 3) (xs.getD i (0, 0, 0)))
theorem SlArg.reads {w : World} {a : Option Addr} {len cap : Nat} {xs : List SlEl} (h : SlArg w a len cap xs) (hl : len ≤ 1048576) : SlReads w (.slice a len cap) xs := by
  obtain ⟨rfl, h1, _, h⟩ := h
  exact ⟨a, cap, rfl, by omega, h⟩
set_option maxRecDepth 100000 in
theorem slarg_of {H : Type} {enc : TypeId × Value → H} {W : World} {base : Nat} {spare : Nat → Bool} {held : Bool} {a : Option Addr} {len cap : Nat} {d : DataW H} {p : List MemPlace}
    (h : DataW.Trod enc Try.prog W base spare held 36 (.slice a len cap) d p) : ∃ xs, SlArg W a len cap xs := by
  obtain ⟨fuel, hf⟩ := h
  rcases open_slice Try.underlying36 hf with ⟨hcs, _⟩ | ⟨x, l, c, m, n, D, Pl, hcs, _, hl, hm, hmm, _, hx⟩
  · simp [Value.cells] at hcs
    obtain ⟨rfl, rfl, rfl⟩ := hcs
    exact ⟨[], rfl, by simp, by simp, .inl rfl⟩
  · simp [Value.cells] at hcs
    obtain ⟨rfl, rfl, rfl⟩ := hcs
    have hlm : len ≤ m := by rw [hmm]; split <;> omega
    have ce : Try.prog.cellsOf 108 = 3 := by kernel_rfl
    have each : ∀ i, i < len → ∃ q : SlEl, W.cell? (x.add (i * 3)) = some (.int .i64 q.1) ∧ W.cell? (x.add (i * 3 + 1)) = some (.int .i64 q.2.1) ∧ W.cell? (x.add (i * 3 + 2)) = some (.int .i64 q.2.2) := fun i hi => by
      obtain ⟨cs', h1, h2⟩ := hx i (by omega)
      rw [ce] at h1
      obtain ⟨_, hlen, hcell⟩ := World.cells?_some h1
      obtain ⟨xs, k, hk, hxy, _, hxl, hf⟩ := DataW.trod_struct Try.underlying108 h2
      match xs, hxl, cs', hlen with
      | [y0, y1, y2], _, [v0, v1, v2], _ =>
        have g0 : DataW.trod enc Try.prog W base spare held k 3 [v0] = some y0 := hf 0 _ rfl
        obtain ⟨z0, e0, _, _⟩ := DataW.trod_int (k := .i64) Try.underlying3 g0
        simp only [List.cons.injEq, and_true] at e0
        have c0 := hcell 0 (by omega)
        rw [add_add] at c0
        have g1 : DataW.trod enc Try.prog W base spare held k 3 [v1] = some y1 := hf 1 _ rfl
        obtain ⟨z1, e1, _, _⟩ := DataW.trod_int (k := .i64) Try.underlying3 g1
        simp only [List.cons.injEq, and_true] at e1
        have c1 := hcell 1 (by omega)
        rw [add_add] at c1
        have g2 : DataW.trod enc Try.prog W base spare held k 3 [v2] = some y2 := hf 2 _ rfl
        obtain ⟨z2, e2, _, _⟩ := DataW.trod_int (k := .i64) Try.underlying3 g2
        simp only [List.cons.injEq, and_true] at e2
        have c2 := hcell 2 (by omega)
        rw [add_add] at c2
        exact ⟨(z0, z1, z2), by rw [← e0]; simpa using c0, by rw [← e1]; simpa using c1, by rw [← e2]; simpa using c2⟩
    obtain ⟨q, hq⟩ := choose_lt each
    have hg : ∀ i, i < len → ((List.range len).map q).getD i (0, 0, 0) = q i := fun i hi => by simp [List.getD_eq_getElem?_getD, hi]
    refine ⟨(List.range len).map q, by simp, hl, hm, ?_⟩
    by_cases h0 : len = 0
    · left; subst h0; rfl
    · right
      obtain ⟨b, off, spot⟩ := x
      have hspot : spot = none := by
        have := (hq 0 (by omega)).1
        simpa [Addr.add] using World.cell?_spot this
      subst hspot
      refine ⟨b, off, rfl, fun i hi => ?_⟩
      have hi' : i < len := by simpa using hi
      have hqi := hq i hi'
      rw [hg i hi']
      refine ⟨?_, ?_, ?_⟩
      · rcases i with _ | i <;> simpa [Addr.add, Nat.add_assoc] using hqi.1
      · rcases i with _ | i <;> simpa [Addr.add, Nat.add_assoc] using hqi.2.1
      · rcases i with _ | i <;> simpa [Addr.add, Nat.add_assoc] using hqi.2.2
end Go.Proofs.Ytdlkilacnnjglaa
