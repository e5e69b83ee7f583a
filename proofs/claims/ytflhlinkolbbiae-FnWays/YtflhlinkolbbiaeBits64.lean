/-
  Bits of numbers of 64 bits without sign. Plain arithmetic, no program.
-/
import Derived.Test.YtflhlinkolbbiaeBits
namespace Go.Proofs.Ytflhlinkolbbiae

theorem wrap_u64_nat (z : Int) : ∃ n : Nat, IntKind.u64.wrap z = (n : Int) ∧ n < 18446744073709551616 := by
  refine ⟨(z % 18446744073709551616).toNat, ?_, ?_⟩
  · rw [IntKind.wrap_u64]; omega
  · omega
theorem and_255_u64 (x : Nat) (hx : x < 18446744073709551616) : bits .and .u64 (x : Int) 255 = ((x % 256 : Nat) : Int) := by
  have h : (BitVec.ofInt 64 (x : Int) &&& BitVec.ofInt 64 ((255 : Nat) : Int)).toNat = x &&& 255 := by
    rw [BitVec.toNat_and, bv_nat 64 x (by omega), bv_nat 64 255 (by omega)]
  have e : x &&& 255 = x % 256 := by rw [show (255 : Nat) = 2 ^ 8 - 1 from rfl, Nat.and_two_pow_sub_one_eq_mod]
  show IntKind.u64.wrap (((BitVec.ofInt 64 (x : Int) &&& BitVec.ofInt 64 ((255 : Nat) : Int)).toNat : Nat) : Int) = _
  rw [h, e, IntKind.wrap_u64]; omega
theorem and_255_back (z : Int) : ∃ n : Nat, n < 256 ∧ RowKit.wrap64 (bits .and .u64 (IntKind.u64.wrap z / 1099511627776) 255) = (n : Int) := by
  obtain ⟨m, hm, hlt⟩ := wrap_u64_nat z
  refine ⟨m / 1099511627776 % 256, Nat.mod_lt _ (by decide), ?_⟩
  rw [hm, show ((m : Int) / 1099511627776) = ((m / 1099511627776 : Nat) : Int) by omega, and_255_u64 _ (by omega)]
  simp only [RowKit.wrap64]; omega
end Go.Proofs.Ytflhlinkolbbiae
