/-
  The bytes of a number in a given size, the highest first: plain arithmetic, no program.
-/
import Derived.WalkKit
namespace Go.Proofs.YthpimklbdabdhaaDoor

/-- Byte j of m in 'size' bytes, without the mark. -/
def byteAt (m size j : Nat) : Nat := m / 256 ^ (size - 1 - j) % 256
/-- The mark of a size. -/
def markN (size : Nat) : Nat := if size = 2 then 64 else if size = 4 then 128 else if size = 8 then 192 else 0
/-- All bytes, the mark in the first. -/
def wideL (m size : Nat) : List UInt8 := (List.range size).map fun j => UInt8.ofNat (byteAt m size j + if j = 0 then markN size else 0)

theorem length_wideL (m size : Nat) : (wideL m size).length = size := by simp [wideL]

theorem byteAt_lt (m size j : Nat) : byteAt m size j < 256 := Nat.mod_lt _ (by decide)

theorem byteAt_last (m size k : Nat) (h : k < size) : m / 256 ^ (size - (k + 1)) % 256 = byteAt m size k := by
  unfold byteAt; rw [show size - 1 - k = size - (k + 1) by omega]

theorem div_step (m size k : Nat) (h : k < size) : m / 256 ^ (size - (k + 1)) / 256 = m / 256 ^ (size - k) := by
  rw [Nat.div_div_eq_div_mul, ← Nat.pow_succ, show (size - (k + 1)).succ = size - k by omega]

/-- What a number of that size leaves of its first byte. -/
theorem byteAt_zero (m size : Nat) (h : m < 64 * 256 ^ (size - 1)) : byteAt m size 0 < 64 ∧ byteAt m size 0 = m / 256 ^ (size - 1) := by
  have h1 : m / 256 ^ (size - 1) < 64 := (Nat.div_lt_iff_lt_mul (Nat.pos_of_ne_zero (by simp))).2 h
  unfold byteAt
  rw [show size - 1 - 0 = size - 1 by omega, Nat.mod_eq_of_lt (by omega)]
  exact ⟨h1, rfl⟩

theorem wideL_get (m size j : Nat) (h : j < (wideL m size).length) : (wideL m size)[j] = UInt8.ofNat (byteAt m size j + if j = 0 then markN size else 0) := by
  simp [wideL]

theorem wideL_toNat (m size j : Nat) (hs : size = 1 ∨ size = 2 ∨ size = 4 ∨ size = 8) (hm : m < 64 * 256 ^ (size - 1)) (h : j < (wideL m size).length) :
    ((wideL m size)[j]).toNat = byteAt m size j + if j = 0 then markN size else 0 := by
  rw [wideL_get]
  have hb := byteAt_lt m size j
  have hz := byteAt_zero m size hm
  have hmk : markN size ≤ 192 := by unfold markN; rcases hs with rfl | rfl | rfl | rfl <;> decide
  have : byteAt m size j + (if j = 0 then markN size else 0) < 256 := by
    by_cases hj : j = 0
    · subst hj; simp; omega
    · simp [hj]; omega
  simp [UInt8.toNat_ofNat', Nat.mod_eq_of_lt this]

end Go.Proofs.YthpimklbdabdhaaDoor
