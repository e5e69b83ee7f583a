/-
  What SpanOf answers: plain arithmetic, no program.
-/
import Derived.Test.YtflhlinkolbbiamHandFns
namespace Go.Proofs.Ytflhlinkolbbiam
open Go.RowKit

/-- What is answered. -/
def soN (xs gs : List Int) (h : Int) : Int := if giB xs gs h = true then ((spanN (xs.map Int.toNat) (gs.map Int.toNat) h.toNat : Nat) : Int) else 0
theorem toNat_ofN (ls : List Nat) : (ofN ls).map Int.toNat = ls := by
  induction ls with
  | nil => rfl
  | cons x ls ih => simp only [ofN, List.map_cons, List.map_map] at ih ⊢; rw [ih]; simp
theorem soN_yes {ls gs : List Nat} {H : Nat} (hc : Chores ls H) (hg : Given ls gs H) : soN (ofN ls) (ofN gs) (H : Nat) = ((spanN ls gs H : Nat) : Int) := by
  unfold soN
  rw [if_pos (given_good hc hg), toNat_ofN, toNat_ofN, Int.toNat_natCast]
end Go.Proofs.Ytflhlinkolbbiam
