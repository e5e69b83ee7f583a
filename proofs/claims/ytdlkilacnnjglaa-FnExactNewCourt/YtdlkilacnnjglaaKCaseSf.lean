/-
  A row of Case is a slice. Plain facts.
-/
import Derived.Test.YtdlkilacnnjglaaKCaseRows
import Derived.Test.YtdlkilacnnjglaaQForm
namespace Go.Proofs.Ytdlkilacnnjglaa
open Go.RowKit

theorem CaOwn.sform {lo hi : Nat} {w : World} {v : Value} {xs : List CaEl} (h : CaOwn lo hi w v xs) : ∃ a n k, v = .slice a n k := by
  rcases h.2 with ⟨a, cap, rfl, _⟩ | ⟨g, cap, rfl, _⟩
  · exact ⟨_, _, _, rfl⟩
  · exact ⟨_, _, _, rfl⟩
theorem CaOwn.onlyP {lo hi : Nat} {w w' : World} {v : Value} {xs : List CaEl} {P : Nat → Prop} (h : CaOwn lo hi w v xs) (ho : OnlyP P w w') (hd : ∀ g, lo ≤ g → g < hi → ¬ P g) : CaOwn lo hi w' v xs := h.at fun g h1 h2 _ => ho.2.1 g (hd g h1 h2)
theorem CaOwn.onlyS {lo hi : Nat} {S : Nat → Prop} {w w' : World} {v : Value} {xs : List CaEl} (h : CaOwn lo hi w v xs) (ho : OnlyS S w w') (hd : ∀ g, lo ≤ g → g < hi → ¬ S g) : CaOwn lo hi w' v xs := h.at fun g h1 h2 h3 => ho g h3 (hd g h1 h2)
end Go.Proofs.Ytdlkilacnnjglaa
