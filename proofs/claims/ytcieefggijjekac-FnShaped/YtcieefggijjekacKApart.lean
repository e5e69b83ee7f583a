/-
  Two rows of numbers that do not share their cells: each owns blocks of its own. Plain facts on the memory.
-/
import Derived.Test.YtcieefggijjekacKIntRows
namespace Go.Proofs.Ytcieefggijjekac
open Go.RowKit

/-- Two rows that do not share their cells. -/
def Apart7 (a b : Value) : Prop := ∀ g, a.ownBlock = some g → b.ownBlock = some g → False
theorem owns_rest7 {w w' : World} {base n : Nat} {t : TypeId} {v : Value} {cs : List Value} {row : Option Nat} (h : w.ownsRow base t 1 v n cs) (hg : w.grownBy w' row) (hr : ∀ g, v.ownBlock = some g → row = some g → False) : w'.ownsRow base t 1 v n cs := by
  refine h.kept hg ?_
  cases hv : v.ownBlock with
  | none => exact .inl rfl
  | some g => exact .inr fun e => hr g hv e.symm
/-- Two rows apart: one's blocks lie ahead of the other's. -/
theorem KOwn.apart {lo hi : Nat} {w : World} {u v : Value} {xs ys : List KEl} (h0 : KOwn lo hi w u xs) (h1 : KOwn lo hi w v ys) (ha : Apart7 u v) (hlh : lo ≤ hi) :
    ∃ l0 e0 l1 e1, ((lo ≤ l0 ∧ l0 ≤ e0 ∧ e0 ≤ hi) ∧ (lo ≤ l1 ∧ l1 ≤ e1 ∧ e1 ≤ hi) ∧ (e0 ≤ l1 ∨ e1 ≤ l0)) ∧ KOwn l0 e0 w u xs ∧ KOwn l1 e1 w v ys := by
  obtain ⟨b0, h0⟩ := h0
  obtain ⟨b1, h1⟩ := h1
  rcases h0 with h0 | ⟨g, cap, rfl, hg, hr⟩
  · exact ⟨lo, lo, lo, hi, ⟨⟨by omega, by omega, by omega⟩, ⟨by omega, by omega, by omega⟩, by omega⟩, ⟨b0, .inl h0⟩, ⟨b1, h1⟩⟩
  · rcases h1 with h1 | ⟨g', cap', rfl, hg', hr'⟩
    · exact ⟨lo, hi, lo, lo, ⟨⟨by omega, by omega, by omega⟩, ⟨by omega, by omega, by omega⟩, by omega⟩, ⟨b0, .inr ⟨g, cap, rfl, hg, hr⟩⟩, ⟨b1, .inl h1⟩⟩
    · have hne : g ≠ g' := fun e => ha g rfl (by rw [e]; rfl)
      exact ⟨g, g + 1, g', g' + 1, ⟨⟨by omega, by omega, by omega⟩, ⟨by omega, by omega, by omega⟩, by omega⟩, ⟨b0, .inr ⟨g, cap, rfl, ⟨by omega, by omega, hg.2.2⟩, hr⟩⟩, ⟨b1, .inr ⟨g', cap', rfl, ⟨by omega, by omega, hg'.2.2⟩, hr'⟩⟩⟩
end Go.Proofs.Ytcieefggijjekac
