/-
  Powers of two up to the sixth. Plain arithmetic.
-/
import Derived.Test.YteeaebelknpdjacGuFns
namespace Go.Proofs.Yteeaebelknpdjac

theorem pow_back {b : Int} (h0 : 0 ≤ b) (h1 : b ≤ 6) : (1 : Int) ≤ 2 ^ b.toNat ∧ (2 : Int) ^ b.toNat ≤ 64 := by
  obtain ⟨k, rfl⟩ := Int.eq_ofNat_of_zero_le h0
  have hk : k ≤ 6 := by omega
  rw [Int.toNat_natCast]
  rcases (by omega : k = 0 ∨ k = 1 ∨ k = 2 ∨ k = 3 ∨ k = 4 ∨ k = 5 ∨ k = 6) with rfl | rfl | rfl | rfl | rfl | rfl | rfl <;> decide
end Go.Proofs.Yteeaebelknpdjac
