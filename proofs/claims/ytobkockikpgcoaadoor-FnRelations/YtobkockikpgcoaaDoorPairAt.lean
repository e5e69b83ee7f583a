/-
  A new element's two cells, and the one end of a region. No function of the program.
-/
import Derived.Test.YtobkockikpgcoaaDoorSpanTake
import Derived.Test.YtobkockikpgcoaaDoorRows2
import Derived.Test.YtobkockikpgcoaaDoorHeapSet
import Derived.Deep.RegionHeld3
import Derived.Deep.DrawnRows
import Derived.Maps.AppendAt
namespace Go.Proofs.YtobkockikpgcoaaDoor
open Go.RowKit
set_option maxRecDepth 100000

/-- The one end of a region: all went well, this state, this world. -/
def onlyN (A : Act) (W : World) : Exit → Act → World → Prop
  | .normal, a, w => a = A ∧ w = W
  | _, _, _ => False
theorem onlyN_out {A : Act} {W : World} {e : Exit} {a : Act} {w : World} (h : onlyN A W e a w) : e = .normal ∧ a = A ∧ w = W := by
  cases e <;> first | exact ⟨rfl, h⟩ | exact h.elim
theorem pair_at {W : World} {b : Nat} {y : Sp} (h0 : W.cell? ⟨b, 0, none⟩ = some (.int .i64 y.1)) (h1 : W.cell? ⟨b, 1, none⟩ = some (.int .i64 y.2)) : ∀ j u, (flat [y])[j]? = some u → W.cell? ((⟨b, 0, none⟩ : Addr).add j) = some u := by
  intro j u hj
  rcases j with _ | _ | j
  · simp [flat] at hj; subst hj; simpa [Addr.add] using h0
  · simp [flat] at hj; subst hj; simpa [Addr.add] using h1
  · simp [flat] at hj
end Go.Proofs.YtobkockikpgcoaaDoor
