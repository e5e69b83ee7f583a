/-
  An argument that is a slice of numbers: what it reads as. Plain facts on what is handed in.
  An argument that is a slice of numbers, or of slices of numbers, as a cell holds it: what it reads as. Plain facts on what is handed in.
-/
import Derived.Test.YteeaebelknpdjbaKIntRows
import Derived.Lib.SmallJoins
import Derived.Deep.SlicePairs
import Derived.Test.YteeaebelknpdjbaQForm
namespace Go.Proofs.Yteeaebelknpdjba
open Go.ChangeShapes Go.WideShapes Go.Deep

/-- The slice reads as xs, however long it is. -/
def KArg (w : World) (a : Option Addr) (len cap : Nat) (xs : List KEl) : Prop :=
  xs.length = len ∧ len ≤ cap ∧ cap ≤ maxLen ∧ (xs = [] ∨ ∃ b off, a = some ⟨b, off, none⟩ ∧ ∀ i, i < xs.length → KCells w b (off + i) (xs.getD i 0))
theorem KArg.reads {w : World} {a : Option Addr} {len cap : Nat} {xs : List KEl} (h : KArg w a len cap xs) (hl : len ≤ 1048576) : KReads w (.slice a len cap) xs := by
  obtain ⟨rfl, h1, _, h⟩ := h
  exact ⟨a, cap, rfl, by omega, h⟩
set_option maxRecDepth 100000 in
theorem karg_of {H : Type} {enc : TypeId × Value → H} {W : World} {base : Nat} {spare : Nat → Bool} {held : Bool} {a : Option Addr} {len cap : Nat} {d : DataW H} {p : List MemPlace}
    (h : DataW.Trod enc Try.prog W base spare held 22 (.slice a len cap) d p) : ∃ xs, KArg W a len cap xs := by
  obtain ⟨fuel, hf⟩ := h
  rcases open_slice Try.underlying22 hf with ⟨hcs, _⟩ | ⟨x, l, c, m, n, D, Pl, hcs, _, hl, hm, hmm, _, hx⟩
  · simp [Value.cells] at hcs
    obtain ⟨rfl, rfl, rfl⟩ := hcs
    exact ⟨[], rfl, by simp, by simp, .inl rfl⟩
  · simp [Value.cells] at hcs
    obtain ⟨rfl, rfl, rfl⟩ := hcs
    have hlm : len ≤ m := by rw [hmm]; split <;> omega
    have ce : Try.prog.cellsOf 3 = 1 := by kernel_rfl
    have each : ∀ i, i < len → ∃ q : KEl, W.cell? (x.add (i)) = some (.int .i64 q) := fun i hi => by
      obtain ⟨cs', h1, h2⟩ := hx i (by omega)
      rw [ce] at h1
      obtain ⟨_, hlen, hcell⟩ := World.cells?_some h1
      obtain ⟨z0, e0, _, _⟩ := DataW.trod_int (k := .i64) Try.underlying3 h2
      match cs', hlen with
      | [v0], _ =>
        simp only [List.cons.injEq, and_true] at e0
        have c0 := hcell 0 (by omega)
        rw [add_add] at c0
        exact ⟨z0, by rw [← e0]; simpa using c0⟩
    obtain ⟨q, hq⟩ := choose_lt each
    have hg : ∀ i, i < len → ((List.range len).map q).getD i 0 = q i := fun i hi => by simp [List.getD_eq_getElem?_getD, hi]
    refine ⟨(List.range len).map q, by simp, hl, hm, ?_⟩
    by_cases h0 : len = 0
    · left; subst h0; rfl
    · right
      obtain ⟨b, off, spot⟩ := x
      have hspot : spot = none := by
        have := hq 0 (by omega)
        simpa [Addr.add] using World.cell?_spot this
      subst hspot
      refine ⟨b, off, rfl, fun i hi => ?_⟩
      have hi' : i < len := by simpa using hi
      have hqi := hq i hi'
      rw [hg i hi']
      show W.cell? _ = _
      rcases i with _ | i <;> simpa [Addr.add, Nat.add_assoc] using hqi
end Go.Proofs.Yteeaebelknpdjba
namespace Go.Proofs.Yteeaebelknpdjba
open Go.ChangeShapes Go.WideShapes Go.Deep Go.RowKit

def KArgV (w : World) (v : Value) (xs : List KEl) : Prop := ∃ a len cap, v = .slice a len cap ∧ KArg w a len cap xs
theorem KArgV.reads {w : World} {v : Value} {xs : List KEl} (h : KArgV w v xs) (hl : xs.length ≤ 1048576) : KReads w v xs := by
  obtain ⟨a, len, cap, rfl, h⟩ := h
  exact h.reads (by rw [← h.1]; exact hl)
theorem KArgV.form {w : World} {v : Value} {xs : List KEl} (h : KArgV w v xs) : ∃ a cap, v = .slice a xs.length cap ∧ xs.length ≤ maxLen := by
  obtain ⟨a, len, cap, rfl, h⟩ := h
  exact ⟨a, cap, by rw [h.1], by rw [h.1]; exact Nat.le_trans h.2.1 h.2.2.1⟩
theorem KArgV.below {w w' : World} {v : Value} {xs : List KEl} (h : KArgV w v xs) (hb : Below w.heap.size w w') : KArgV w' v xs := by
  obtain ⟨a, len, cap, rfl, h1, h2, h3, h4⟩ := h
  refine ⟨a, len, cap, rfl, h1, h2, h3, ?_⟩
  rcases h4 with h4 | ⟨b, off, e, hc⟩
  · exact .inl h4
  · exact .inr ⟨b, off, e, fun i hi => (hc i hi).of_block (hb.block b (hc i hi).lt)⟩
def QArgV (w : World) (v : Value) (xss : List (List KEl)) : Prop :=
  ∃ a cap, v = .slice a xss.length cap ∧ (xss.length ≤ cap ∧ cap ≤ maxLen) ∧ (xss = [] ∨ ∃ b off, a = some ⟨b, off, none⟩ ∧ ∀ i, i < xss.length → ∃ u, w.cell? ⟨b, off + i, none⟩ = some u ∧ KArgV w u (xss.getD i []))
theorem QArgV.reads {w : World} {v : Value} {xss : List (List KEl)} (h : QArgV w v xss) (hl : xss.length ≤ 1048576) (hr : ∀ i, i < xss.length → (xss.getD i []).length ≤ 1048576) : QReads w v xss := by
  obtain ⟨a, cap, rfl, h1, h⟩ := h
  refine ⟨a, cap, rfl, by omega, ?_⟩
  rcases h with h | ⟨b, off, rfl, hc⟩
  · exact .inl h
  · refine .inr ⟨b, off, rfl, fun i hi => ?_⟩
    obtain ⟨u, c1, c2⟩ := hc i hi
    exact ⟨u, c1, c2.reads (hr i hi)⟩
theorem QArgV.below {w w' : World} {v : Value} {xss : List (List KEl)} (h : QArgV w v xss) (hb : Below w.heap.size w w') : QArgV w' v xss := by
  obtain ⟨a, cap, rfl, h1, h⟩ := h
  refine ⟨a, cap, rfl, h1, ?_⟩
  rcases h with h | ⟨b, off, rfl, hc⟩
  · exact .inl h
  · refine .inr ⟨b, off, rfl, fun i hi => ?_⟩
    obtain ⟨u, c1, c2⟩ := hc i hi
    exact ⟨u, (World.cell?_of_block (a := ⟨b, off + i, none⟩) (hb.block b (lt_of_cell c1))).trans c1, c2.below hb⟩
set_option maxRecDepth 100000 in
theorem kargV_of {H : Type} {enc : TypeId × Value → H} {W : World} {base : Nat} {spare : Nat → Bool} {held : Bool} {fuel : Nat} {v : Value} {y : DataW H × List MemPlace}
    (h : DataW.trod enc Try.prog W base spare held fuel 22 [v] = some y) : ∃ xs, KArgV W v xs := by
  have hv : ∃ a len cap, v = .slice a len cap := by
    rcases open_slice Try.underlying22 h with ⟨hcs, _⟩ | ⟨x, l, c, m, n, D, Pl, hcs, _⟩
    · simp only [List.cons.injEq, and_true] at hcs
      exact ⟨_, _, _, hcs⟩
    · simp only [List.cons.injEq, and_true] at hcs
      exact ⟨_, _, _, hcs⟩
  obtain ⟨a, len, cap, rfl⟩ := hv
  obtain ⟨xs, hx⟩ := karg_of (H := H) (enc := enc) (base := base) (spare := spare) (held := held) (d := y.1) (p := y.2) ⟨fuel, by simpa [Value.cells] using h⟩
  exact ⟨xs, a, len, cap, rfl, hx⟩
set_option maxRecDepth 100000 in
theorem qargV_of {H : Type} {enc : TypeId × Value → H} {W : World} {base : Nat} {spare : Nat → Bool} {held : Bool} {fuel : Nat} {v : Value} {y : DataW H × List MemPlace}
    (h : DataW.trod enc Try.prog W base spare held fuel 23 [v] = some y) : ∃ xss, QArgV W v xss := by
  rcases open_slice Try.underlying23 h with ⟨hcs, _⟩ | ⟨x, len, cap, m, n, D, Pl, hcs, _, hl, hm, hmm, _, hx⟩
  · simp only [List.cons.injEq, and_true] at hcs
    exact ⟨[], none, 0, hcs, by simp, .inl rfl⟩
  · simp only [List.cons.injEq, and_true] at hcs
    subst hcs
    have hlm : len ≤ m := by rw [hmm]; split <;> omega
    have ce : Try.prog.cellsOf 22 = 1 := by kernel_rfl
    have each : ∀ i, i < len → ∃ q : List KEl, ∃ u, W.cell? (x.add i) = some u ∧ KArgV W u q := fun i hi => by
      obtain ⟨cs', h1, h2⟩ := hx i (by omega)
      rw [ce] at h1
      obtain ⟨_, hlen, hcell⟩ := World.cells?_some h1
      match cs', hlen, h2 with
      | [v0], _, h2 =>
        obtain ⟨xs, hxs⟩ := kargV_of h2
        have c0 := hcell 0 (by omega)
        rw [add_add] at c0
        exact ⟨xs, v0, by simpa using c0, hxs⟩
    obtain ⟨q, hq⟩ := choose_lt each
    have hg : ∀ i, i < len → ((List.range len).map q).getD i [] = q i := fun i hi => by simp [List.getD_eq_getElem?_getD, hi]
    refine ⟨(List.range len).map q, some x, cap, by simp, by simpa using ⟨hl, hm⟩, ?_⟩
    by_cases h0 : len = 0
    · left; subst h0; rfl
    · right
      obtain ⟨b, off, spot⟩ := x
      have hspot : spot = none := by
        obtain ⟨u, this, _⟩ := hq 0 (by omega)
        simpa [Addr.add] using World.cell?_spot this
      subst hspot
      refine ⟨b, off, rfl, fun i hi => ?_⟩
      have hi' : i < len := by simpa using hi
      obtain ⟨u, hu, hk⟩ := hq i hi'
      rw [hg i hi']
      refine ⟨u, ?_, hk⟩
      rcases i with _ | i <;> simpa [Addr.add, Nat.add_assoc] using hu
end Go.Proofs.Yteeaebelknpdjba
