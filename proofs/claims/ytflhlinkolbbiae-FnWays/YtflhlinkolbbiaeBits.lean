/-
  Bits of whole numbers as sums and remainders: 'x & 255', 'b & 63', 'x<<8 | b', 'b | c<<6'. Plain arithmetic, no program.
-/
import Derived.WalkKit
namespace Go.Proofs.Ytflhlinkolbbiae

theorem bv_nat (n x : Nat) (h : x < 2 ^ n) : (BitVec.ofInt n (x : Int)).toNat = x := by
  rw [BitVec.ofInt_natCast, BitVec.toNat_ofNat, Nat.mod_eq_of_lt h]

theorem bits_and_i64 (x y : Nat) (hx : x < 9223372036854775808) (hy : y < 9223372036854775808) : bits .and .i64 (x : Int) (y : Int) = ((x &&& y : Nat) : Int) := by
  have h : (BitVec.ofInt 64 (x : Int) &&& BitVec.ofInt 64 (y : Int)).toNat = x &&& y := by
    rw [BitVec.toNat_and, bv_nat 64 x (by omega), bv_nat 64 y (by omega)]
  have hle : x &&& y ≤ x := Nat.and_le_left
  show IntKind.i64.wrap (((BitVec.ofInt 64 (x : Int) &&& BitVec.ofInt 64 (y : Int)).toNat : Nat) : Int) = _
  rw [h, IntKind.wrap_i64]; omega

theorem bits_or_i64 (x y : Nat) (hx : x < 9223372036854775808) (hy : y < 9223372036854775808) : bits .or .i64 (x : Int) (y : Int) = ((x ||| y : Nat) : Int) := by
  have h : (BitVec.ofInt 64 (x : Int) ||| BitVec.ofInt 64 (y : Int)).toNat = x ||| y := by
    rw [BitVec.toNat_or, bv_nat 64 x (by omega), bv_nat 64 y (by omega)]
  have hle : x ||| y < 2 ^ 63 := Nat.or_lt_two_pow (by omega) (by omega)
  show IntKind.i64.wrap (((BitVec.ofInt 64 (x : Int) ||| BitVec.ofInt 64 (y : Int)).toNat : Nat) : Int) = _
  rw [h, IntKind.wrap_i64]; omega

theorem bits_and_u8 (x y : Nat) (hx : x < 256) (hy : y < 256) : bits .and .u8 (x : Int) (y : Int) = ((x &&& y : Nat) : Int) := by
  have h : (BitVec.ofInt 8 (x : Int) &&& BitVec.ofInt 8 (y : Int)).toNat = x &&& y := by
    rw [BitVec.toNat_and, bv_nat 8 x (by omega), bv_nat 8 y (by omega)]
  have hle : x &&& y ≤ x := Nat.and_le_left
  show IntKind.u8.wrap (((BitVec.ofInt 8 (x : Int) &&& BitVec.ofInt 8 (y : Int)).toNat : Nat) : Int) = _
  rw [h, IntKind.wrap_u8]; omega

theorem bits_or_u8 (x y : Nat) (hx : x < 256) (hy : y < 256) : bits .or .u8 (x : Int) (y : Int) = ((x ||| y : Nat) : Int) := by
  have h : (BitVec.ofInt 8 (x : Int) ||| BitVec.ofInt 8 (y : Int)).toNat = x ||| y := by
    rw [BitVec.toNat_or, bv_nat 8 x (by omega), bv_nat 8 y (by omega)]
  have hle : x ||| y < 2 ^ 8 := Nat.or_lt_two_pow (by omega) (by omega)
  show IntKind.u8.wrap (((BitVec.ofInt 8 (x : Int) ||| BitVec.ofInt 8 (y : Int)).toNat : Nat) : Int) = _
  rw [h, IntKind.wrap_u8]; omega

theorem and_255 (x : Nat) (hx : x < 9223372036854775808) : bits .and .i64 (x : Int) 255 = ((x % 256 : Nat) : Int) := by
  have h := bits_and_i64 x 255 hx (by omega)
  rw [show (255 : Nat) = 2 ^ 8 - 1 from rfl, Nat.and_two_pow_sub_one_eq_mod] at h
  exact h
theorem and_63 (b : Nat) (hb : b < 256) : bits .and .u8 (b : Int) 63 = ((b % 64 : Nat) : Int) := by
  have h := bits_and_u8 b 63 hb (by omega)
  rw [show (63 : Nat) = 2 ^ 6 - 1 from rfl, Nat.and_two_pow_sub_one_eq_mod] at h
  exact h
theorem or_byte (x b : Nat) (hx : x < 36028797018963968) (hb : b < 256) : bits .or .i64 ((x : Int) * 256) (b : Int) = ((x * 256 + b : Nat) : Int) := by
  have h := bits_or_i64 (x * 256) b (by omega) (by omega)
  have e : x * 256 + b = x * 256 ||| b := by
    have := Nat.two_pow_add_eq_or_of_lt (b := b) (i := 8) (by omega) x
    rw [show x * 256 = 2 ^ 8 * x by omega]; exact this
  rw [← e] at h
  rw [← h, show ((x * 256 : Nat) : Int) = (x : Int) * 256 by omega]
theorem or_class (b c : Nat) (hb : b < 64) (hc : c ≤ 3) : bits .or .u8 (b : Int) ((c : Int) * 64) = ((b + c * 64 : Nat) : Int) := by
  have h := bits_or_u8 b (c * 64) (by omega) (by omega)
  have e : b + c * 64 = b ||| c * 64 := by
    have := Nat.two_pow_add_eq_or_of_lt (b := b) (i := 6) (by omega) c
    rw [Nat.or_comm, show c * 64 = 2 ^ 6 * c by omega, ← this]; omega
  rw [← e] at h
  rw [← h, show ((c * 64 : Nat) : Int) = (c : Int) * 64 by omega]
end Go.Proofs.Ytflhlinkolbbiae
