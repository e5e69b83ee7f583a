/-
  A row of numbers in blocks of a set. Plain facts on the memory.
-/
import Derived.Test.YtdlkilacnnjglaaQForm
namespace Go.Proofs.Ytdlkilacnnjglaa
open Go.RowKit

def KOwnS (S : Nat → Prop) (w : World) (v : Value) (xs : List KEl) : Prop := ∃ l e, KOwn l e w v xs ∧ ∀ g, l ≤ g → g < e → S g
theorem KOwnS.reads {S : Nat → Prop} {w : World} {v : Value} {xs : List KEl} (h : KOwnS S w v xs) : KReads w v xs := by
  obtain ⟨l, e, h, _⟩ := h
  exact h.reads
theorem KOwnS.below {S : Nat → Prop} {w w' : World} {v : Value} {xs : List KEl} (h : KOwnS S w v xs) (hb : Below w.heap.size w w') : KOwnS S w' v xs := by
  obtain ⟨l, e, h, hs⟩ := h
  exact ⟨l, e, h.below hb, hs⟩
theorem KOwnS.onlyS {S S' : Nat → Prop} {w w' : World} {v : Value} {xs : List KEl} (h : KOwnS S w v xs) (ho : OnlyS S' w w') (hd : ∀ g, S g → S' g → False) : KOwnS S w' v xs := by
  obtain ⟨l, e, h, hs⟩ := h
  exact ⟨l, e, h.at fun g g1 g2 g3 => ho g g3 (hd g (hs g g1 g2)), hs⟩
theorem KOwn.inS {lo hi : Nat} {w : World} {v : Value} {xs : List KEl} (h : KOwn lo hi w v xs) : KOwnS (Iv lo hi) w v xs := ⟨lo, hi, h, fun _ h1 h2 => ⟨h1, h2⟩⟩
theorem KOwnS.on {l e : Nat} {S : Nat → Prop} {w w' : World} (hS : ∀ g, l ≤ g → g < e → S g) (on : Only l e w w') : OnlyS S w w' := fun j _ hj => on.2 j (by
  by_cases h1 : j < l
  · exact .inl h1
  · by_cases h2 : e ≤ j
    · exact .inr h2
    · exact absurd (hS j (by omega) (by omega)) hj)
/-- Behind the numbering of a row in blocks of S, all from lo on: nothing ahead of lo is touched. -/
theorem KOwnS.frame {l e lo : Nat} {S : Nat → Prop} {w w' : World} {v : Value} {xs : List KEl} (_h : KOwn l e w v xs) (hS : ∀ g, l ≤ g → g < e → S g) (hlo : ∀ g, S g → lo ≤ g) (_hw : lo ≤ w.heap.size) (b : Below l w w') (on : Only l e w w') : Below lo w w' :=
  ⟨b.os, b.tape, b.output, b.size, fun k hk => on.2 k (by
    by_cases h1 : k < l
    · exact .inl h1
    · by_cases h2 : e ≤ k
      · exact .inr h2
      · have := hlo k (hS k (by omega) (by omega))
        omega)⟩
end Go.Proofs.Ytdlkilacnnjglaa
