/-
  An argument that is a slice of Case, as a cell holds it: what it reads as. Plain facts on what is handed in.
-/
import Derived.Test.YtdlkilacnnjglaaKCaseArg
namespace Go.Proofs.Ytdlkilacnnjglaa
open Go.ChangeShapes Go.WideShapes Go.Deep Go.RowKit

def CaArgV (w : World) (v : Value) (xs : List CaEl) : Prop := ∃ a len cap, v = .slice a len cap ∧ CaArg w a len cap xs
theorem CaArgV.reads {w : World} {v : Value} {xs : List CaEl} (h : CaArgV w v xs) (hl : xs.length ≤ 1048576) : CaReads w v xs := by
  obtain ⟨a, len, cap, rfl, h⟩ := h
  exact h.reads (by rw [← h.1]; exact hl)
theorem CaArgV.form {w : World} {v : Value} {xs : List CaEl} (h : CaArgV w v xs) : ∃ a cap, v = .slice a xs.length cap ∧ xs.length ≤ maxLen := by
  obtain ⟨a, len, cap, rfl, h⟩ := h
  exact ⟨a, cap, by rw [h.1], by rw [h.1]; exact Nat.le_trans h.2.1 h.2.2.1⟩
theorem CaArgV.below {w w' : World} {v : Value} {xs : List CaEl} (h : CaArgV w v xs) (hb : Below w.heap.size w w') : CaArgV w' v xs := by
  obtain ⟨a, len, cap, rfl, h1, h2, h3, h4⟩ := h
  refine ⟨a, len, cap, rfl, h1, h2, h3, ?_⟩
  rcases h4 with h4 | ⟨b, off, e, hc⟩
  · exact .inl h4
  · exact .inr ⟨b, off, e, fun i hi => (hc i hi).of_block (hb.block b (hc i hi).lt)⟩
set_option maxRecDepth 100000 in
theorem caargV_of {H : Type} {enc : TypeId × Value → H} {W : World} {base : Nat} {spare : Nat → Bool} {held : Bool} {fuel : Nat} {v : Value} {y : DataW H × List MemPlace}
    (h : DataW.trod enc Try.prog W base spare held fuel 35 [v] = some y) : ∃ xs, CaArgV W v xs := by
  have hv : ∃ a len cap, v = .slice a len cap := by
    rcases open_slice Try.underlying35 h with ⟨hcs, _⟩ | ⟨x, l, c, m, n, D, Pl, hcs, _⟩
    · simp only [List.cons.injEq, and_true] at hcs
      exact ⟨_, _, _, hcs⟩
    · simp only [List.cons.injEq, and_true] at hcs
      exact ⟨_, _, _, hcs⟩
  obtain ⟨a, len, cap, rfl⟩ := hv
  obtain ⟨xs, hx⟩ := caarg_of (H := H) (enc := enc) (base := base) (spare := spare) (held := held) (d := y.1) (p := y.2) ⟨fuel, by simpa [Value.cells] using h⟩
  exact ⟨xs, a, len, cap, rfl, hx⟩
end Go.Proofs.Ytdlkilacnnjglaa
