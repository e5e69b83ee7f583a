/-
  An argument that is a slice of GreetStep, or one GreetStep: what it reads as. Plain facts on what is handed in.
-/
import Derived.Test.YtdlkilacnnjglaaKGreetStepRows
import Derived.Lib.SmallJoins
import Derived.Deep.SlicePairs
namespace Go.Proofs.Ytdlkilacnnjglaa
open Go.ChangeShapes Go.WideShapes Go.Deep

set_option maxRecDepth 100000 in
theorem greetStep_of {H : Type} {enc : TypeId × Value → H} {W : World} {base : Nat} {spare : Nat → Bool} {held : Bool} {r : Reach} {b0 : Nat} {v : Value} {d : DataW H} {p : List MemPlace}
    (hv : Value.okWide Try.prog W r b0 96 v) (h : DataW.Trod enc Try.prog W base spare held 96 v d p) : ∃ x : GsEl, v = (.agg #[.int .i64 x.1, .int .i64 x.2]) := by
  obtain ⟨v0, v1, y0, y1, n, rfl, _, _, h0, h1⟩ := Go.Joins.open_agg2 Try.underlying96 (by kernel_rfl) (by kernel_rfl) hv h
  obtain ⟨z0, e0, _, _⟩ := DataW.trod_int (k := .i64) Try.underlying3 h0
  obtain ⟨z1, e1, _, _⟩ := DataW.trod_int (k := .i64) Try.underlying3 h1
  simp only [List.cons.injEq, and_true] at e0 e1
  exact ⟨(z0, z1), by rw [e0, e1]⟩
/-- The slice reads as xs, however long it is. -/
def GsArg (w : World) (a : Option Addr) (len cap : Nat) (xs : List GsEl) : Prop :=
  xs.length = len ∧ len ≤ cap ∧ cap ≤ maxLen ∧ (xs = [] ∨ ∃ b off, a = some ⟨b, off, none⟩ ∧ ∀ i, i < xs.length → GsCells w b (off + i * 2) (xs.getD i (0, 0)))
theorem GsArg.reads {w : World} {a : Option Addr} {len cap : Nat} {xs : List GsEl} (h : GsArg w a len cap xs) (hl : len ≤ 1048576) : GsReads w (.slice a len cap) xs := by
  obtain ⟨rfl, h1, _, h⟩ := h
  exact ⟨a, cap, rfl, by omega, h⟩
set_option maxRecDepth 100000 in
theorem gsarg_of {H : Type} {enc : TypeId × Value → H} {W : World} {base : Nat} {spare : Nat → Bool} {held : Bool} {a : Option Addr} {len cap : Nat} {d : DataW H} {p : List MemPlace}
    (h : DataW.Trod enc Try.prog W base spare held 45 (.slice a len cap) d p) : ∃ xs, GsArg W a len cap xs := by
  obtain ⟨fuel, hf⟩ := h
  rcases open_slice Try.underlying45 hf with ⟨hcs, _⟩ | ⟨x, l, c, m, n, D, Pl, hcs, _, hl, hm, hmm, _, hx⟩
  · simp [Value.cells] at hcs
    obtain ⟨rfl, rfl, rfl⟩ := hcs
    exact ⟨[], rfl, by simp, by simp, .inl rfl⟩
  · simp [Value.cells] at hcs
    obtain ⟨rfl, rfl, rfl⟩ := hcs
    have hlm : len ≤ m := by rw [hmm]; split <;> omega
    have ce : Try.prog.cellsOf 96 = 2 := by kernel_rfl
    have each : ∀ i, i < len → ∃ q : GsEl, W.cell? (x.add (i * 2)) = some (.int .i64 q.1) ∧ W.cell? (x.add (i * 2 + 1)) = some (.int .i64 q.2) := fun i hi => by
      obtain ⟨cs', h1, h2⟩ := hx i (by omega)
      rw [ce] at h1
      obtain ⟨_, hlen, hcell⟩ := World.cells?_some h1
      obtain ⟨xs, k, hk, hxy, _, hxl, hf⟩ := DataW.trod_struct Try.underlying96 h2
      match xs, hxl, cs', hlen with
      | [y0, y1], _, [v0, v1], _ =>
        have g0 : DataW.trod enc Try.prog W base spare held k 3 [v0] = some y0 := hf 0 _ rfl
        obtain ⟨z0, e0, _, _⟩ := DataW.trod_int (k := .i64) Try.underlying3 g0
        simp only [List.cons.injEq, and_true] at e0
        have c0 := hcell 0 (by omega)
        rw [add_add] at c0
        have g1 : DataW.trod enc Try.prog W base spare held k 3 [v1] = some y1 := hf 1 _ rfl
        obtain ⟨z1, e1, _, _⟩ := DataW.trod_int (k := .i64) Try.underlying3 g1
        simp only [List.cons.injEq, and_true] at e1
        have c1 := hcell 1 (by omega)
        rw [add_add] at c1
        exact ⟨(z0, z1), by rw [← e0]; simpa using c0, by rw [← e1]; simpa using c1⟩
    obtain ⟨q, hq⟩ := choose_lt each
    have hg : ∀ i, i < len → ((List.range len).map q).getD i (0, 0) = q i := fun i hi => by simp [List.getD_eq_getElem?_getD, hi]
    refine ⟨(List.range len).map q, by simp, hl, hm, ?_⟩
    by_cases h0 : len = 0
    · left; subst h0; rfl
    · right
      obtain ⟨b, off, spot⟩ := x
      have hspot : spot = none := by
        have := (hq 0 (by omega)).1
        simpa [Addr.add] using World.cell?_spot this
      subst hspot
      refine ⟨b, off, rfl, fun i hi => ?_⟩
      have hi' : i < len := by simpa using hi
      have hqi := hq i hi'
      rw [hg i hi']
      refine ⟨?_, ?_⟩
      · rcases i with _ | i <;> simpa [Addr.add, Nat.add_assoc] using hqi.1
      · rcases i with _ | i <;> simpa [Addr.add, Nat.add_assoc] using hqi.2
end Go.Proofs.Ytdlkilacnnjglaa
