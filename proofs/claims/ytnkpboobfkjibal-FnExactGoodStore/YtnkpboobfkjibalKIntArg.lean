/-
  An argument that is a slice of numbers: what it reads as. Plain facts on what is handed in.
  An argument that is a slice of numbers, as a cell holds it: what it reads as. Plain facts on what is handed in.
  laws.szIntS: what is left of a bound behind a list's length. Nothing is written.
-/
import Derived.Test.YtnkpboobfkjibalKIntRows
import Derived.Lib.SmallJoins
import Derived.Deep.SlicePairs
import Derived.Test.YtnkpboobfkjibalQForm
namespace Go.Proofs.Ytnkpboobfkjibal
open Go.ChangeShapes Go.WideShapes Go.Deep

/-- The slice reads as xs, however long it is. -/
def KArg (w : World) (a : Option Addr) (len cap : Nat) (xs : List KEl) : Prop :=
  xs.length = len ∧ len ≤ cap ∧ cap ≤ maxLen ∧ (xs = [] ∨ ∃ b off, a = some ⟨b, off, none⟩ ∧ ∀ i, i < xs.length → KCells w b (off + i) (xs.getD i 0))
theorem KArg.reads {w : World} {a : Option Addr} {len cap : Nat} {xs : List KEl} (h : KArg w a len cap xs) (hl : len ≤ 1048576) : KReads w (.slice a len cap) xs := by
  obtain ⟨rfl, h1, _, h⟩ := h
  exact ⟨a, cap, rfl, by omega, h⟩
set_option maxRecDepth 100000 in
theorem karg_of {H : Type} {enc : TypeId × Value → H} {W : World} {base : Nat} {spare : Nat → Bool} {held : Bool} {a : Option Addr} {len cap : Nat} {d : DataW H} {p : List MemPlace}
    (h : DataW.Trod enc Try.prog W base spare held 23 (.slice a len cap) d p) : ∃ xs, KArg W a len cap xs := by
  obtain ⟨fuel, hf⟩ := h
  rcases open_slice Try.underlying23 hf with ⟨hcs, _⟩ | ⟨x, l, c, m, n, D, Pl, hcs, _, hl, hm, hmm, _, hx⟩
  · simp [Value.cells] at hcs
    obtain ⟨rfl, rfl, rfl⟩ := hcs
    exact ⟨[], rfl, by simp, by simp, .inl rfl⟩
  · simp [Value.cells] at hcs
    obtain ⟨rfl, rfl, rfl⟩ := hcs
    have hlm : len ≤ m := by rw [hmm]; split <;> omega
    have ce : Try.prog.cellsOf 3 = 1 := by kernel_rfl
    have each : ∀ i, i < len → ∃ q : KEl, W.cell? (x.add (i)) = some (.int .i64 q) := fun i hi => by
      obtain ⟨cs', h1, h2⟩ := hx i (by omega)
      rw [ce] at h1
      obtain ⟨_, hlen, hcell⟩ := World.cells?_some h1
      obtain ⟨z0, e0, _, _⟩ := DataW.trod_int (k := .i64) Try.underlying3 h2
      match cs', hlen with
      | [v0], _ =>
        simp only [List.cons.injEq, and_true] at e0
        have c0 := hcell 0 (by omega)
        rw [add_add] at c0
        exact ⟨z0, by rw [← e0]; simpa using c0⟩
    obtain ⟨q, hq⟩ := choose_lt each
    have hg : ∀ i, i < len → ((List.range len).map q).getD i 0 = q i := fun i hi => by simp [List.getD_eq_getElem?_getD, hi]
    refine ⟨(List.range len).map q, by simp, hl, hm, ?_⟩
    by_cases h0 : len = 0
    · left; subst h0; rfl
    · right
      obtain ⟨b, off, spot⟩ := x
      have hspot : spot = none := by
        have := hq 0 (by omega)
        simpa [Addr.add] using World.cell?_spot this
      subst hspot
      refine ⟨b, off, rfl, fun i hi => ?_⟩
      have hi' : i < len := by simpa using hi
      have hqi := hq i hi'
      rw [hg i hi']
      show W.cell? _ = _
      rcases i with _ | i <;> simpa [Addr.add, Nat.add_assoc] using hqi
end Go.Proofs.Ytnkpboobfkjibal
namespace Go.Proofs.Ytnkpboobfkjibal
open Go.ChangeShapes Go.WideShapes Go.Deep Go.RowKit

def KArgV (w : World) (v : Value) (xs : List KEl) : Prop := ∃ a len cap, v = .slice a len cap ∧ KArg w a len cap xs
theorem KArgV.reads {w : World} {v : Value} {xs : List KEl} (h : KArgV w v xs) (hl : xs.length ≤ 1048576) : KReads w v xs := by
  obtain ⟨a, len, cap, rfl, h⟩ := h
  exact h.reads (by rw [← h.1]; exact hl)
theorem KArgV.form {w : World} {v : Value} {xs : List KEl} (h : KArgV w v xs) : ∃ a cap, v = .slice a xs.length cap ∧ xs.length ≤ maxLen := by
  obtain ⟨a, len, cap, rfl, h⟩ := h
  exact ⟨a, cap, by rw [h.1], by rw [h.1]; exact Nat.le_trans h.2.1 h.2.2.1⟩
theorem KArgV.below {w w' : World} {v : Value} {xs : List KEl} (h : KArgV w v xs) (hb : Below w.heap.size w w') : KArgV w' v xs := by
  obtain ⟨a, len, cap, rfl, h1, h2, h3, h4⟩ := h
  refine ⟨a, len, cap, rfl, h1, h2, h3, ?_⟩
  rcases h4 with h4 | ⟨b, off, e, hc⟩
  · exact .inl h4
  · exact .inr ⟨b, off, e, fun i hi => (hc i hi).of_block (hb.block b (hc i hi).lt)⟩
set_option maxRecDepth 100000 in
theorem kargV_of {H : Type} {enc : TypeId × Value → H} {W : World} {base : Nat} {spare : Nat → Bool} {held : Bool} {fuel : Nat} {v : Value} {y : DataW H × List MemPlace}
    (h : DataW.trod enc Try.prog W base spare held fuel 23 [v] = some y) : ∃ xs, KArgV W v xs := by
  have hv : ∃ a len cap, v = .slice a len cap := by
    rcases open_slice Try.underlying23 h with ⟨hcs, _⟩ | ⟨x, l, c, m, n, D, Pl, hcs, _⟩
    · simp only [List.cons.injEq, and_true] at hcs
      exact ⟨_, _, _, hcs⟩
    · simp only [List.cons.injEq, and_true] at hcs
      exact ⟨_, _, _, hcs⟩
  obtain ⟨a, len, cap, rfl⟩ := hv
  obtain ⟨xs, hx⟩ := karg_of (H := H) (enc := enc) (base := base) (spare := spare) (held := held) (d := y.1) (p := y.2) ⟨fuel, by simpa [Value.cells] using h⟩
  exact ⟨xs, a, len, cap, rfl, hx⟩
end Go.Proofs.Ytnkpboobfkjibal
namespace Go.Proofs.Ytnkpboobfkjibal
open Go.RowKit

set_option maxHeartbeats 2000000 in
theorem szIntS_any (v : Value) (xs : List KEl) (w : World) (h : KArgV w v xs) (l : Int) (h0 : 0 ≤ l) (h1 : l ≤ 1048576) :
    Calls Try.prog 10 #[v, .int .i64 l] w fun e w' => ∃ r : Int, e = .returned (.int .i64 r) ∧ ((r = -1 ∨ r = l - (xs.length : Nat)) ∧ (0 ≤ r → (xs.length : Nat) ≤ l) ∧ -1 ≤ r ∧ r ≤ l) ∧ w' = w := by
  obtain ⟨a, cap, rfl, hm⟩ := h.form
  unfold maxLen at hm
  have hw : IntKind.i64.wrap (l - (xs.length : Int)) = l - xs.length := by rw [IntKind.wrap_i64]; omega
  clear h
  by_cases hl : l - (xs.length : Int) < 0
  · have hd : decide (l - (xs.length : Int) < 0) = true := by simpa using hl
    go_enter Try.func10, Try.ntmps10
    go_wp2
    go_ret
    exact ⟨-1, rfl, ⟨.inl rfl, by omega, by omega, by omega⟩, rfl⟩
  · have hd : decide (l - (xs.length : Int) < 0) = false := by simpa using hl
    go_enter Try.func10, Try.ntmps10
    go_wp2
    go_ret
    exact ⟨_, rfl, ⟨.inr rfl, by omega, by omega, by omega⟩, rfl⟩
end Go.Proofs.Ytnkpboobfkjibal
