/-
  An argument that is a slice of texts: what it reads as. Plain facts on what is handed in.
-/
import Derived.Test.YtijojdempijhbajXRows
import Derived.Lib.SmallJoins
import Derived.Deep.SlicePairs
namespace Go.Proofs.Ytijojdempijhbaj
open Go.ChangeShapes Go.WideShapes Go.Deep

/-- The slice reads as xs, however long it is. -/
def XArg (w : World) (a : Option Addr) (len cap : Nat) (xs : List XEl) : Prop :=
  xs.length = len ∧ len ≤ cap ∧ cap ≤ maxLen ∧ (xs = [] ∨ ∃ b off, a = some ⟨b, off, none⟩ ∧ ∀ i, i < xs.length → XCells w b (off + i) (xs.getD i xz)) ∧ ∀ s ∈ xs, s.size ≤ maxLen
theorem XArg.reads {w : World} {a : Option Addr} {len cap : Nat} {xs : List XEl} (h : XArg w a len cap xs) (hl : len ≤ 1048576) : XReads w (.slice a len cap) xs := by
  obtain ⟨rfl, h1, _, h, _⟩ := h
  exact ⟨a, cap, rfl, by omega, h⟩
set_option maxRecDepth 100000 in
theorem xarg_of {H : Type} {enc : TypeId × Value → H} {W : World} {base : Nat} {spare : Nat → Bool} {held : Bool} {a : Option Addr} {len cap : Nat} {d : DataW H} {p : List MemPlace}
    (h : DataW.Trod enc Try.prog W base spare held 22 (.slice a len cap) d p) : ∃ xs, XArg W a len cap xs := by
  obtain ⟨fuel, hf⟩ := h
  rcases open_slice Try.underlying22 hf with ⟨hcs, _⟩ | ⟨x, l, c, m, n, D, Pl, hcs, _, hl, hm, hmm, _, hx⟩
  · simp [Value.cells] at hcs
    obtain ⟨rfl, rfl, rfl⟩ := hcs
    exact ⟨[], rfl, by simp, by simp, .inl rfl, by simp⟩
  · simp [Value.cells] at hcs
    obtain ⟨rfl, rfl, rfl⟩ := hcs
    have hlm : len ≤ m := by rw [hmm]; split <;> omega
    have ce : Try.prog.cellsOf 9 = 1 := by kernel_rfl
    have each : ∀ i, i < len → ∃ q : XEl, W.cell? (x.add (i)) = some (.string q) ∧ q.size ≤ maxLen := fun i hi => by
      obtain ⟨cs', h1, h2⟩ := hx i (by omega)
      rw [ce] at h1
      obtain ⟨_, hlen, hcell⟩ := World.cells?_some h1
      obtain ⟨z0, e0, _, hz⟩ := DataW.trod_string Try.underlying9 h2
      match cs', hlen with
      | [v0], _ =>
        simp only [List.cons.injEq, and_true] at e0
        have c0 := hcell 0 (by omega)
        rw [add_add] at c0
        exact ⟨z0, by rw [← e0]; simpa using c0, hz⟩
    obtain ⟨q, hq⟩ := choose_lt each
    have hg : ∀ i, i < len → ((List.range len).map q).getD i xz = q i := fun i hi => by simp [List.getD_eq_getElem?_getD, hi]
    refine ⟨(List.range len).map q, by simp, hl, hm, ?_, ?_⟩
    rotate_left
    · intro s hs
      obtain ⟨i, hi, rfl⟩ := List.mem_map.1 hs
      exact (hq i (by simpa using hi)).2
    by_cases h0 : len = 0
    · left; subst h0; rfl
    · right
      obtain ⟨b, off, spot⟩ := x
      have hspot : spot = none := by
        have := (hq 0 (by omega)).1
        simpa [Addr.add] using World.cell?_spot this
      subst hspot
      refine ⟨b, off, rfl, fun i hi => ?_⟩
      have hi' : i < len := by simpa using hi
      have hqi := (hq i hi').1
      rw [hg i hi']
      show W.cell? _ = _
      rcases i with _ | i <;> simpa [Addr.add, Nat.add_assoc] using hqi
end Go.Proofs.Ytijojdempijhbaj
