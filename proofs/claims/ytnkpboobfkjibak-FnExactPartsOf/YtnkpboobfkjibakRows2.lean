/-
  Small facts on rows of spans that are being made. No program.
-/
import Derived.Test.YtnkpboobfkjibakReplacedM
namespace Go.Proofs.Ytnkpboobfkjibak
open Go.RowKit

theorem sreads_cells {w : World} {v : Value} {xs : List Sp} (h : SReads w v xs) (k : Nat) (hk : k < xs.length) : ∃ b off cap, v = .slice (some ⟨b, off, none⟩) xs.length cap ∧ ∀ i, i < xs.length → w.cell? ⟨b, off + i * 2, none⟩ = some (.int .i64 (xs.getD i (0, 0)).1) ∧ w.cell? ⟨b, off + i * 2 + 1, none⟩ = some (.int .i64 (xs.getD i (0, 0)).2) := by
  obtain ⟨a, cap, rfl, _, h⟩ := h
  rcases h with h | ⟨b, off, rfl, hc⟩
  · subst h; simp at hk
  · exact ⟨b, off, cap, rfl, hc⟩
theorem snil_reads (w : World) (a : Option Addr) : SReads w (.slice a 0 0) [] := ⟨a, 0, rfl, by simp, .inl rfl⟩
theorem owns_nil (w : World) (base : Nat) (t : TypeId) : w.ownsRow base t 2 (.slice none 0 0) 0 (flat []) := ⟨rfl, .inl ⟨rfl, rfl⟩⟩
theorem owns_block {w : World} {base : Nat} {t : TypeId} {size n : Nat} {v : Value} {cs : List Value} (h : w.ownsRow base t size v n cs) : ∀ k, v.ownBlock = some k → base ≤ k := by
  intro k hk
  rcases h.2 with ⟨rfl, _⟩ | ⟨g, cap, cur, rfl, hg, _⟩
  · simp [Value.ownBlock] at hk
  · simp [Value.ownBlock] at hk; omega
theorem pair_new (w : World) (y : Sp) (t : TypeId) : ∀ j u, (flat [y])[j]? = some u → (w.alloc (.cells #[.int .i64 y.1, .int .i64 y.2] t)).cell? ((⟨w.heap.size, 0, none⟩ : Addr).add j) = some u := by
  intro j u hj
  rcases j with _ | _ | j
  · simp [flat] at hj; subst hj; simp [Addr.add]
  · simp [flat] at hj; subst hj; simp [Addr.add]
  · simp [flat] at hj
end Go.Proofs.Ytnkpboobfkjibak
