/-
  What is told of waits behind a loss: plain arithmetic, no program.
-/
import Derived.Test.YteeaebelknpdjacGuPow
namespace Go.Proofs.Yteeaebelknpdjac

theorem wait_lost {g : GuEl} (hg : GoodG g) (t : Int) (tw : Bool) : waitG g ≤ waitG (seeG g (t, tw, true)) ∧ (g.2.2.2 < 6 → waitG (seeG g (t, tw, true)) = 2 * waitG g ∨ waitG (seeG g (t, tw, true)) = 400) := by
  obtain ⟨m, s, n, b⟩ := g
  have h7 := hg.b0
  have h8 := hg.b1
  simp only at h7 h8
  show min 400 (max 4 (m / 8 + s) * 2 ^ b.toNat) ≤ min 400 (max 4 (m / 8 + s) * 2 ^ (min 6 (b + 1)).toNat) ∧ (b < 6 → min 400 (max 4 (m / 8 + s) * 2 ^ (min 6 (b + 1)).toNat) = 2 * min 400 (max 4 (m / 8 + s) * 2 ^ b.toNat) ∨ min 400 (max 4 (m / 8 + s) * 2 ^ (min 6 (b + 1)).toNat) = 400)
  have hp := pow_back h7 h8
  obtain ⟨a, ha⟩ : ∃ a, max 4 (m / 8 + s) = a := ⟨_, rfl⟩
  rw [ha]
  have ha4 : 4 ≤ a := by omega
  by_cases hb : b < 6
  · have e : (min 6 (b + 1)).toNat = b.toNat + 1 := by omega
    rw [e, Int.pow_succ, ← Int.mul_assoc]
    have hpos : 4 * 1 ≤ a * 2 ^ b.toNat := Int.mul_le_mul ha4 hp.1 (by omega) (by omega)
    generalize a * 2 ^ b.toNat = k at hpos ⊢
    exact ⟨by omega, fun _ => by omega⟩
  · have e : min 6 (b + 1) = b := by omega
    rw [e]
    exact ⟨Int.le_refl _, fun h => absurd h hb⟩
end Go.Proofs.Yteeaebelknpdjac
