/-
  A queue in a box: what waits, what went and what waited. Plain facts on the memory.
-/
import Derived.Test.YtcieefggijjekacUntilMath
import Derived.Test.YtcieefggijjekacKApart
import Derived.Test.YtcieefggijjekacKOne
import Derived.Test.YtcieefggijjekacOneCell
namespace Go.Proofs.Ytcieefggijjekac
open Go.RowKit

theorem min7_run (p q : Int) : ∀ (ts : Array TypeId) (ty : TypeId) (w : World), (Builtin.min_ ts ty #[.int .i64 p, .int .i64 q]).run Try.prog w = .ok (.int .i64 (mn7 p q)) w := fun ts ty w => by simp [Builtin.min_, Builtin.min2, mn7]
theorem max7_run (p q : Int) : ∀ (ts : Array TypeId) (ty : TypeId) (w : World), (Builtin.max_ ts ty #[.int .i64 p, .int .i64 q]).run Try.prog w = .ok (.int .i64 (mx7 p q)) w := fun ts ty w => by simp [Builtin.max_, Builtin.max2, mx7]
def QBox (w : World) (b base n : Nat) (wt : Int) (gs ws : List Int) : Prop := ∃ vg vw : Value, (w.cell? ⟨b, 0, none⟩ = some (.int .i64 wt) ∧ w.cell? ⟨b, 1, none⟩ = some vg ∧ w.cell? ⟨b, 2, none⟩ = some vw) ∧ (w.frozen? ⟨b, 0, none⟩ = false ∧ w.frozen? ⟨b, 1, none⟩ = false ∧ w.frozen? ⟨b, 2, none⟩ = false) ∧ w.ownsRow base 3 1 vg n (kflat gs) ∧ w.ownsRow base 3 1 vw n (kflat ws) ∧ Apart7 vg vw
theorem owns_pos {w : World} {base n : Nat} {t : TypeId} {v : Value} {cs : List Value} (h : w.ownsRow base t 1 v (n + 1) cs) : ∃ g cap, v = .slice (some ⟨g, 0, none⟩) (n + 1) cap ∧ base ≤ g ∧ g < w.heap.size := by
  obtain ⟨h1, h2⟩ := h
  rcases h2 with ⟨a, b⟩ | ⟨g, cap, cur, rfl, hg, hh, hr⟩
  · exact absurd b (by simp)
  · exact ⟨g, cap, rfl, hg, (Array.getElem?_eq_some_iff.1 hh).1⟩
theorem QBox.drew {w : World} {b base n : Nat} {wt : Int} {gs ws : List Int} (h : QBox w b base n wt gs ws) : QBox w.drew b base n wt gs ws := by
  obtain ⟨vg, vw, c, f, hg, hw, ha⟩ := h
  exact ⟨vg, vw, c, f, hg.drew, hw.drew, ha⟩
end Go.Proofs.Ytcieefggijjekac
