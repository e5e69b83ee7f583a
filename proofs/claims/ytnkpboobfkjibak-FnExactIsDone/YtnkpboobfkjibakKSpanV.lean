/-
  An argument that is a slice of Span, as a cell holds it: what it reads as. Plain facts on what is handed in.
  laws.szSpanS: what is left of a bound behind a list's length. Nothing is written.
-/
import Derived.Test.YtnkpboobfkjibakKSpanArg
namespace Go.Proofs.Ytnkpboobfkjibak
open Go.ChangeShapes Go.WideShapes Go.Deep Go.RowKit

def SpArgV (w : World) (v : Value) (xs : List SpEl) : Prop := ∃ a len cap, v = .slice a len cap ∧ SpArg w a len cap xs
theorem SpArgV.reads {w : World} {v : Value} {xs : List SpEl} (h : SpArgV w v xs) (hl : xs.length ≤ 1048576) : SpReads w v xs := by
  obtain ⟨a, len, cap, rfl, h⟩ := h
  exact h.reads (by rw [← h.1]; exact hl)
theorem SpArgV.form {w : World} {v : Value} {xs : List SpEl} (h : SpArgV w v xs) : ∃ a cap, v = .slice a xs.length cap ∧ xs.length ≤ maxLen := by
  obtain ⟨a, len, cap, rfl, h⟩ := h
  exact ⟨a, cap, by rw [h.1], by rw [h.1]; exact Nat.le_trans h.2.1 h.2.2.1⟩
theorem SpArgV.below {w w' : World} {v : Value} {xs : List SpEl} (h : SpArgV w v xs) (hb : Below w.heap.size w w') : SpArgV w' v xs := by
  obtain ⟨a, len, cap, rfl, h1, h2, h3, h4⟩ := h
  refine ⟨a, len, cap, rfl, h1, h2, h3, ?_⟩
  rcases h4 with h4 | ⟨b, off, e, hc⟩
  · exact .inl h4
  · exact .inr ⟨b, off, e, fun i hi => (hc i hi).of_block (hb.block b (hc i hi).lt)⟩
set_option maxRecDepth 100000 in
theorem spargV_of {H : Type} {enc : TypeId × Value → H} {W : World} {base : Nat} {spare : Nat → Bool} {held : Bool} {fuel : Nat} {v : Value} {y : DataW H × List MemPlace}
    (h : DataW.trod enc Try.prog W base spare held fuel 43 [v] = some y) : ∃ xs, SpArgV W v xs := by
  have hv : ∃ a len cap, v = .slice a len cap := by
    rcases open_slice Try.underlying43 h with ⟨hcs, _⟩ | ⟨x, l, c, m, n, D, Pl, hcs, _⟩
    · simp only [List.cons.injEq, and_true] at hcs
      exact ⟨_, _, _, hcs⟩
    · simp only [List.cons.injEq, and_true] at hcs
      exact ⟨_, _, _, hcs⟩
  obtain ⟨a, len, cap, rfl⟩ := hv
  obtain ⟨xs, hx⟩ := sparg_of (H := H) (enc := enc) (base := base) (spare := spare) (held := held) (d := y.1) (p := y.2) ⟨fuel, by simpa [Value.cells] using h⟩
  exact ⟨xs, a, len, cap, rfl, hx⟩
end Go.Proofs.Ytnkpboobfkjibak
namespace Go.Proofs.Ytnkpboobfkjibak
open Go.RowKit

set_option maxHeartbeats 2000000 in
theorem szSpanS_any (v : Value) (xs : List SpEl) (w : World) (h : SpArgV w v xs) (l : Int) (h0 : 0 ≤ l) (h1 : l ≤ 1048576) :
    Calls Try.prog 49 #[v, .int .i64 l] w fun e w' => ∃ r : Int, e = .returned (.int .i64 r) ∧ ((r = -1 ∨ r = l - (xs.length : Nat)) ∧ (0 ≤ r → (xs.length : Nat) ≤ l) ∧ -1 ≤ r ∧ r ≤ l) ∧ w' = w := by
  obtain ⟨a, cap, rfl, hm⟩ := h.form
  unfold maxLen at hm
  have hw : IntKind.i64.wrap (l - (xs.length : Int)) = l - xs.length := by rw [IntKind.wrap_i64]; omega
  clear h
  by_cases hl : l - (xs.length : Int) < 0
  · have hd : decide (l - (xs.length : Int) < 0) = true := by simpa using hl
    go_enter Try.func49, Try.ntmps49
    go_wp2
    go_ret
    exact ⟨-1, rfl, ⟨.inl rfl, by omega, by omega, by omega⟩, rfl⟩
  · have hd : decide (l - (xs.length : Int) < 0) = false := by simpa using hl
    go_enter Try.func49, Try.ntmps49
    go_wp2
    go_ret
    exact ⟨_, rfl, ⟨.inr rfl, by omega, by omega, by omega⟩, rfl⟩
end Go.Proofs.Ytnkpboobfkjibak
