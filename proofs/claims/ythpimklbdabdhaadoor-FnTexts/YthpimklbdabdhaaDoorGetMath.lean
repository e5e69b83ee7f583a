/-
  What stands at a place of a text, read as a number: plain arithmetic, no program.
-/
import Derived.Test.YthpimklbdabdhaaDoorPutNumber
namespace Go.Proofs.YthpimklbdabdhaaDoor
open Go.RowKit

/-- Byte i of a text, 0 behind its end. -/
def sb (s : ByteArray) (i : Nat) : Nat := if h : i < s.size then (s[i]'h).toNat else 0
theorem sb_eq (s : ByteArray) (i : Nat) (h : i < s.size) : sb s i = (s[i]'h).toNat := by unfold sb; rw [dif_pos h]
theorem sb_lt (s : ByteArray) (i : Nat) : sb s i < 256 := by
  unfold sb
  split
  · exact UInt8.toNat_lt _
  · decide

/-- The class and the size that the first byte tells. -/
def gcl (s : ByteArray) (k : Nat) : Nat := sb s k / 64
def gsz (s : ByteArray) (k : Nat) : Nat := if gcl s k = 0 then 1 else if gcl s k = 1 then 2 else if gcl s k = 2 then 4 else 8
/-- What has been read behind j bytes more. -/
def gval (s : ByteArray) (k : Nat) : Nat → Nat
  | 0 => sb s k % 64
  | j + 1 => gval s k j * 256 + sb s (k + (j + 1))
/-- The number. -/
def gnum (s : ByteArray) (k : Nat) : Nat := gval s k (gsz s k - 1)

/-- A number stands there, in the fewest bytes. -/
def GoodAt (s : ByteArray) (k : Nat) : Prop := k < s.size ∧ gsz s k ≤ s.size - k ∧ gnum s k ≤ 1152921504606846975 ∧ szI (gnum s k) = gsz s k

theorem gcl_le (s : ByteArray) (k : Nat) : gcl s k ≤ 3 := by have := sb_lt s k; unfold gcl; omega
theorem gsz_is (s : ByteArray) (k : Nat) : gsz s k = 1 ∨ gsz s k = 2 ∨ gsz s k = 4 ∨ gsz s k = 8 := by
  unfold gsz
  repeat' split
  all_goals simp
theorem gval_lt (s : ByteArray) (k : Nat) : ∀ j, gval s k j < 64 * 256 ^ j
  | 0 => by simp [gval]; omega
  | j + 1 => by
    have h := gval_lt s k j
    have hb := sb_lt s (k + (j + 1))
    rw [Nat.pow_succ]
    simp only [gval]
    omega
theorem gval_lt7 (s : ByteArray) (k j : Nat) (h : j < 7) : gval s k j < 36028797018963968 := by
  have h1 := gval_lt s k j
  have h2 : 256 ^ j ≤ 256 ^ 6 := Nat.pow_le_pow_right (by decide) (by omega)
  have h3 : (256 : Nat) ^ 6 = 281474976710656 := by decide
  omega
theorem gval_lt8 (s : ByteArray) (k j : Nat) (h : j < 8) : gval s k j < 4611686018427387904 := by
  have h1 := gval_lt s k j
  have h2 : 256 ^ j ≤ 256 ^ 7 := Nat.pow_le_pow_right (by decide) (by omega)
  have h3 : (256 : Nat) ^ 7 = 72057594037927936 := by decide
  omega
end Go.Proofs.YthpimklbdabdhaaDoor
