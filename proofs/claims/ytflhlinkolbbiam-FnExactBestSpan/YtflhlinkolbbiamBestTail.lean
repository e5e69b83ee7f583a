/-
  A row of one's own in its block, and a row without its first: plain facts on the memory.
-/
import Derived.Test.YtflhlinkolbbiamHandFns
import Derived.Test.YtflhlinkolbbiamIRows
namespace Go.Proofs.Ytflhlinkolbbiam
open Go.RowKit

theorem irow_ofB {w : World} {lo n : Nat} {v : Value} {xs : List Int} (h : w.ownsRow lo 3 1 v n (kflat xs)) (hn : 0 < n) : ∃ g cap, v = .slice (some ⟨g, 0, none⟩) n cap ∧ lo ≤ g ∧ IRow w g n cap xs := by
  rcases h.2 with ⟨_, h'⟩ | ⟨g, cap, cur, e, hb, hr⟩
  · omega
  · exact ⟨g, cap, e, hb, h.1, .inr ⟨g, cap, cur, rfl, Nat.le_refl _, hr⟩⟩
theorem kreads_tailB {w : World} {g o n c c' : Nat} {p : Nat} {l : List Nat} (h : KReads w (.slice (some ⟨g, o, none⟩) (n + 1) c) (ofN (p :: l))) (hl : l.length = n) (hc : n ≤ c') : KReads w (.slice (some ⟨g, o + 1, none⟩) n c') (ofN l) := by
  have hlen : (ofN l).length = n := by rw [List.length_map]; exact hl
  obtain ⟨a, cap, e, hb, hx⟩ := h
  refine ⟨_, c', by rw [hlen], by rw [hlen]; have := hb.1; rw [List.length_map, List.length_cons] at this; omega, .inr ⟨g, o + 1, rfl, fun i hi => ?_⟩⟩
  rcases hx with hx | ⟨b, off, rfl, hc'⟩
  · simp [ofN] at hx
  · cases e
    have := hc' (i + 1) (by rw [List.length_map, List.length_cons]; omega)
    rw [ofN_at, List.getD_cons_succ, ← ofN_at] at this
    rw [show o + 1 + i = o + (i + 1) by omega]
    exact this
end Go.Proofs.Ytflhlinkolbbiam
