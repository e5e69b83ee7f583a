/-
  Rows of spans, their cells one behind the other. Plain facts.
-/
import Derived.Test.YtnkpboobfkjibakSpans
import Derived.ArgAppend
import Derived.Deep.Upon
import Derived.Lib.SlFresh
import Derived.Lib.SliceRun
namespace Go.Proofs.Ytnkpboobfkjibak
open Go.RowKit
set_option maxRecDepth 100000

theorem owns_mono {w : World} {base base' : Nat} {t : TypeId} {size n : Nat} {v : Value} {cs : List Value} (h : w.ownsRow base t size v n cs) (hb : base' ≤ base) : w.ownsRow base' t size v n cs := by
  obtain ⟨h1, h2⟩ := h
  refine ⟨h1, ?_⟩
  rcases h2 with h | ⟨g, cap, cur, hv, hg, h⟩
  · exact .inl h
  · exact .inr ⟨g, cap, cur, hv, by omega, h⟩
theorem flat_one (xs : List Sp) : ∀ u ∈ flat xs, u.oneCell' = true := by
  intro u hu
  obtain ⟨x, _, hx⟩ := List.mem_flatMap.1 hu
  simp at hx
  rcases hx with rfl | rfl <;> rfl
/-- The cells of what is read, one behind the other. -/
theorem flat_cells {w : World} {b off : Nat} {xs : List Sp} (hc : ∀ i, i < xs.length → w.cell? ⟨b, off + i * 2, none⟩ = some (.int .i64 (xs.getD i (0, 0)).1) ∧ w.cell? ⟨b, off + i * 2 + 1, none⟩ = some (.int .i64 (xs.getD i (0, 0)).2)) :
    ∀ j u, (flat xs)[j]? = some u → w.cell? ((⟨b, off, none⟩ : Addr).add j) = some u := by
  intro j u hj
  have hlt : j < xs.length * 2 := by
    have := (List.getElem?_eq_some_iff.1 hj).1
    rwa [length_flat] at this
  have h1 := flat_get xs (j / 2) (by omega)
  have h2 := hc (j / 2) (by omega)
  rw [show (⟨b, off, none⟩ : Addr).add j = ⟨b, off + j, none⟩ by rcases j with _ | j <;> simp [Addr.add]]
  rcases (by omega : j % 2 = 0 ∨ j % 2 = 1) with e | e
  · rw [show j / 2 * 2 = j by omega] at h1 h2
    rw [h1.1] at hj
    rw [h2.1, ← hj]
  · rw [show j / 2 * 2 + 1 = j by omega, show off + j / 2 * 2 + 1 = off + j by omega] at *
    rw [h1.2] at hj
    rw [h2.2, ← hj]

end Go.Proofs.Ytnkpboobfkjibak
