/-
  An argument that is a slice of numbers: what it reads as. Plain facts on what is handed in.
-/
import Derived.Test.YtdlkilacnnjglaaKIntRows
import Derived.Lib.SmallJoins
import Derived.Deep.SlicePairs
namespace Go.Proofs.Ytdlkilacnnjglaa
open Go.ChangeShapes Go.WideShapes Go.Deep

/-- The slice reads as xs, however long it is. -/
def KArg (w : World) (a : Option Addr) (len cap : Nat) (xs : List KEl) : Prop :=
  xs.length = len ∧ len ≤ cap ∧ cap ≤ maxLen ∧ (xs = [] ∨ ∃ b off, a = some ⟨b, off, none⟩ ∧ ∀ i, i < xs.length → KCells w b (off + i) (xs.getD i 0))
theorem KArg.reads {w : World} {a : Option Addr} {len cap : Nat} {xs : List KEl} (h : KArg w a len cap xs) (hl : len ≤ 1048576) : KReads w (.slice a len cap) xs := by
  obtain ⟨rfl, h1, _, h⟩ := h
  exact ⟨a, cap, rfl, by omega, h⟩
set_option maxRecDepth 100000 in
theorem karg_of {H : Type} {enc : TypeId × Value → H} {W : World} {base : Nat} {spare : Nat → Bool} {held : Bool} {a : Option Addr} {len cap : Nat} {d : DataW H} {p : List MemPlace}
    (h : DataW.Trod enc Try.prog W base spare held 22 (.slice a len cap) d p) : ∃ xs, KArg W a len cap xs := by
  obtain ⟨fuel, hf⟩ := h
  rcases open_slice Try.underlying22 hf with ⟨hcs, _⟩ | ⟨x, l, c, m, n, D, Pl, hcs, _, hl, hm, hmm, _, hx⟩
  · simp [Value.cells] at hcs
    obtain ⟨rfl, rfl, rfl⟩ := hcs
    exact ⟨[], rfl, by simp, by simp, .inl rfl⟩
  · simp [Value.cells] at hcs
    obtain ⟨rfl, rfl, rfl⟩ := hcs
    have hlm : len ≤ m := by rw [hmm]; split <;> omega
    have ce : Try.prog.cellsOf 3 = 1 := by kernel_rfl
    have each : ∀ i, i < len → ∃ q : KEl, W.cell? (x.add (i)) = some (.int .i64 q) := fun i hi => by
      obtain ⟨cs', h1, h2⟩ := hx i (by omega)
      rw [ce] at h1
      obtain ⟨_, hlen, hcell⟩ := World.cells?_some h1
      obtain ⟨z0, e0, _, _⟩ := DataW.trod_int (k := .i64) Try.underlying3 h2
      match cs', hlen with
      | [v0], _ =>
        simp only [List.cons.injEq, and_true] at e0
        have c0 := hcell 0 (by omega)
        rw [add_add] at c0
        exact ⟨z0, by rw [← e0]; simpa using c0⟩
    obtain ⟨q, hq⟩ := choose_lt each
    have hg : ∀ i, i < len → ((List.range len).map q).getD i 0 = q i := fun i hi => by simp [List.getD_eq_getElem?_getD, hi]
    refine ⟨(List.range len).map q, by simp, hl, hm, ?_⟩
    by_cases h0 : len = 0
    · left; subst h0; rfl
    · right
      obtain ⟨b, off, spot⟩ := x
      have hspot : spot = none := by
        have := hq 0 (by omega)
        simpa [Addr.add] using World.cell?_spot this
      subst hspot
      refine ⟨b, off, rfl, fun i hi => ?_⟩
      have hi' : i < len := by simpa using hi
      have hqi := hq i hi'
      rw [hg i hi']
      show W.cell? _ = _
      rcases i with _ | i <;> simpa [Addr.add, Nat.add_assoc] using hqi
end Go.Proofs.Ytdlkilacnnjglaa
