/-
  A row of Span is a slice. Plain facts.
-/
import Derived.Test.YtnkpboobfkjibakKSpanRows
import Derived.Test.YtnkpboobfkjibakQForm
namespace Go.Proofs.Ytnkpboobfkjibak
open Go.RowKit

theorem SpOwn.sform {lo hi : Nat} {w : World} {v : Value} {xs : List SpEl} (h : SpOwn lo hi w v xs) : ∃ a n k, v = .slice a n k := by
  rcases h.2 with ⟨a, cap, rfl, _⟩ | ⟨g, cap, rfl, _⟩
  · exact ⟨_, _, _, rfl⟩
  · exact ⟨_, _, _, rfl⟩
theorem SpOwn.onlyP {lo hi : Nat} {w w' : World} {v : Value} {xs : List SpEl} {P : Nat → Prop} (h : SpOwn lo hi w v xs) (ho : OnlyP P w w') (hd : ∀ g, lo ≤ g → g < hi → ¬ P g) : SpOwn lo hi w' v xs := h.at fun g h1 h2 _ => ho.2.1 g (hd g h1 h2)
theorem SpOwn.onlyS {lo hi : Nat} {S : Nat → Prop} {w w' : World} {v : Value} {xs : List SpEl} (h : SpOwn lo hi w v xs) (ho : OnlyS S w w') (hd : ∀ g, lo ≤ g → g < hi → ¬ S g) : SpOwn lo hi w' v xs := h.at fun g h1 h2 h3 => ho g h3 (hd g h1 h2)
end Go.Proofs.Ytnkpboobfkjibak
