/-
  Bits of whole numbers as sums and remainders: 'x & 255', 'b & 63', 'x<<8 | b', 'b | c<<6'. Plain arithmetic, no program.
  Bits of numbers of 64 bits without sign. Plain arithmetic, no program.
  The cursor from which the laws draw their inputs: spec.l1Cur's next answers with a number below 256 and goes on; it writes into the cursor alone.
  A slice of integers that came in. Plain facts on the memory.
  The bytes that are handed in are what a cursor reads. Plain facts on the memory.
-/
import Derived.WalkKit
import Derived.Test.YtnkpboobfkjibadInts
import Derived.Test.YtnkpboobfkjibadProg
import Derived.OpenShut
namespace Go.Proofs.Ytnkpboobfkjibad

theorem bv_nat (n x : Nat) (h : x < 2 ^ n) : (BitVec.ofInt n (x : Int)).toNat = x := by
  rw [BitVec.ofInt_natCast, BitVec.toNat_ofNat, Nat.mod_eq_of_lt h]

theorem bits_and_i64 (x y : Nat) (hx : x < 9223372036854775808) (hy : y < 9223372036854775808) : bits .and .i64 (x : Int) (y : Int) = ((x &&& y : Nat) : Int) := by
  have h : (BitVec.ofInt 64 (x : Int) &&& BitVec.ofInt 64 (y : Int)).toNat = x &&& y := by
    rw [BitVec.toNat_and, bv_nat 64 x (by omega), bv_nat 64 y (by omega)]
  have hle : x &&& y ≤ x := Nat.and_le_left
  show IntKind.i64.wrap (((BitVec.ofInt 64 (x : Int) &&& BitVec.ofInt 64 (y : Int)).toNat : Nat) : Int) = _
  rw [h, IntKind.wrap_i64]; omega

theorem bits_or_i64 (x y : Nat) (hx : x < 9223372036854775808) (hy : y < 9223372036854775808) : bits .or .i64 (x : Int) (y : Int) = ((x ||| y : Nat) : Int) := by
  have h : (BitVec.ofInt 64 (x : Int) ||| BitVec.ofInt 64 (y : Int)).toNat = x ||| y := by
    rw [BitVec.toNat_or, bv_nat 64 x (by omega), bv_nat 64 y (by omega)]
  have hle : x ||| y < 2 ^ 63 := Nat.or_lt_two_pow (by omega) (by omega)
  show IntKind.i64.wrap (((BitVec.ofInt 64 (x : Int) ||| BitVec.ofInt 64 (y : Int)).toNat : Nat) : Int) = _
  rw [h, IntKind.wrap_i64]; omega

theorem bits_and_u8 (x y : Nat) (hx : x < 256) (hy : y < 256) : bits .and .u8 (x : Int) (y : Int) = ((x &&& y : Nat) : Int) := by
  have h : (BitVec.ofInt 8 (x : Int) &&& BitVec.ofInt 8 (y : Int)).toNat = x &&& y := by
    rw [BitVec.toNat_and, bv_nat 8 x (by omega), bv_nat 8 y (by omega)]
  have hle : x &&& y ≤ x := Nat.and_le_left
  show IntKind.u8.wrap (((BitVec.ofInt 8 (x : Int) &&& BitVec.ofInt 8 (y : Int)).toNat : Nat) : Int) = _
  rw [h, IntKind.wrap_u8]; omega

theorem bits_or_u8 (x y : Nat) (hx : x < 256) (hy : y < 256) : bits .or .u8 (x : Int) (y : Int) = ((x ||| y : Nat) : Int) := by
  have h : (BitVec.ofInt 8 (x : Int) ||| BitVec.ofInt 8 (y : Int)).toNat = x ||| y := by
    rw [BitVec.toNat_or, bv_nat 8 x (by omega), bv_nat 8 y (by omega)]
  have hle : x ||| y < 2 ^ 8 := Nat.or_lt_two_pow (by omega) (by omega)
  show IntKind.u8.wrap (((BitVec.ofInt 8 (x : Int) ||| BitVec.ofInt 8 (y : Int)).toNat : Nat) : Int) = _
  rw [h, IntKind.wrap_u8]; omega

theorem and_255 (x : Nat) (hx : x < 9223372036854775808) : bits .and .i64 (x : Int) 255 = ((x % 256 : Nat) : Int) := by
  have h := bits_and_i64 x 255 hx (by omega)
  rw [show (255 : Nat) = 2 ^ 8 - 1 from rfl, Nat.and_two_pow_sub_one_eq_mod] at h
  exact h
theorem and_63 (b : Nat) (hb : b < 256) : bits .and .u8 (b : Int) 63 = ((b % 64 : Nat) : Int) := by
  have h := bits_and_u8 b 63 hb (by omega)
  rw [show (63 : Nat) = 2 ^ 6 - 1 from rfl, Nat.and_two_pow_sub_one_eq_mod] at h
  exact h
theorem or_byte (x b : Nat) (hx : x < 36028797018963968) (hb : b < 256) : bits .or .i64 ((x : Int) * 256) (b : Int) = ((x * 256 + b : Nat) : Int) := by
  have h := bits_or_i64 (x * 256) b (by omega) (by omega)
  have e : x * 256 + b = x * 256 ||| b := by
    have := Nat.two_pow_add_eq_or_of_lt (b := b) (i := 8) (by omega) x
    rw [show x * 256 = 2 ^ 8 * x by omega]; exact this
  rw [← e] at h
  rw [← h, show ((x * 256 : Nat) : Int) = (x : Int) * 256 by omega]
theorem or_class (b c : Nat) (hb : b < 64) (hc : c ≤ 3) : bits .or .u8 (b : Int) ((c : Int) * 64) = ((b + c * 64 : Nat) : Int) := by
  have h := bits_or_u8 b (c * 64) (by omega) (by omega)
  have e : b + c * 64 = b ||| c * 64 := by
    have := Nat.two_pow_add_eq_or_of_lt (b := b) (i := 6) (by omega) c
    rw [Nat.or_comm, show c * 64 = 2 ^ 6 * c by omega, ← this]; omega
  rw [← e] at h
  rw [← h, show ((c * 64 : Nat) : Int) = (c : Int) * 64 by omega]
end Go.Proofs.Ytnkpboobfkjibad
namespace Go.Proofs.Ytnkpboobfkjibad

theorem wrap_u64_nat (z : Int) : ∃ n : Nat, IntKind.u64.wrap z = (n : Int) ∧ n < 18446744073709551616 := by
  refine ⟨(z % 18446744073709551616).toNat, ?_, ?_⟩
  · rw [IntKind.wrap_u64]; omega
  · omega
theorem and_255_u64 (x : Nat) (hx : x < 18446744073709551616) : bits .and .u64 (x : Int) 255 = ((x % 256 : Nat) : Int) := by
  have h : (BitVec.ofInt 64 (x : Int) &&& BitVec.ofInt 64 ((255 : Nat) : Int)).toNat = x &&& 255 := by
    rw [BitVec.toNat_and, bv_nat 64 x (by omega), bv_nat 64 255 (by omega)]
  have e : x &&& 255 = x % 256 := by rw [show (255 : Nat) = 2 ^ 8 - 1 from rfl, Nat.and_two_pow_sub_one_eq_mod]
  show IntKind.u64.wrap (((BitVec.ofInt 64 (x : Int) &&& BitVec.ofInt 64 ((255 : Nat) : Int)).toNat : Nat) : Int) = _
  rw [h, e, IntKind.wrap_u64]; omega
theorem and_255_back (z : Int) : ∃ n : Nat, n < 256 ∧ RowKit.wrap64 (bits .and .u64 (IntKind.u64.wrap z / 1099511627776) 255) = (n : Int) := by
  obtain ⟨m, hm, hlt⟩ := wrap_u64_nat z
  refine ⟨m / 1099511627776 % 256, Nat.mod_lt _ (by decide), ?_⟩
  rw [hm, show ((m : Int) / 1099511627776) = ((m / 1099511627776 : Nat) : Int) by omega, and_255_u64 _ (by omega)]
  simp only [RowKit.wrap64]; omega
end Go.Proofs.Ytnkpboobfkjibad
namespace Go.Proofs.Ytnkpboobfkjibad
open Go.RowKit

/-- The bytes that a cursor reads lie below block B. -/
def CodeOk (B : Nat) (w : World) (v : Value) : Prop :=
  ∃ a len cap, v = .slice a len cap ∧ len ≤ 1048576 ∧ (len = 0 ∨ ∃ cb off, a = some ⟨cb, off, none⟩ ∧ cb < B ∧ ∀ i, i < len → ∃ x : Nat, x < 256 ∧ w.cell? ⟨cb, off + i, none⟩ = some (.int .u8 x))

/-- Block b is a cursor that has gone at most N steps. -/
def Cur (B : Nat) (w : World) (b N : Nat) : Prop :=
  B ≤ b ∧ B ≤ w.heap.size ∧ ∃ v f, ∃ at_ sd : Nat, w.rowIs b 109 3 f ∧ f 0 = v ∧ f 1 = .int .i64 at_ ∧ f 2 = .int .u64 sd ∧ at_ ≤ N ∧ sd < 18446744073709551616 ∧ CodeOk B w v

theorem only_refl (w : World) (r : Option Nat) : w.grownBy w r := ⟨rfl, rfl, rfl, Nat.le_refl _, fun _ _ _ => rfl⟩
theorem only_drew {w w' : World} {r : Option Nat} (h : w.grownBy w' r) : w.grownBy w'.drew r := ⟨h.os, h.tape, h.output, h.size, h.block⟩
theorem only_set {w w' : World} {b : Nat} (h : w.grownBy w' (some b)) (i : Nat) (u : Value) : w.grownBy (w'.setCell ⟨b, i, none⟩ u) (some b) :=
  ⟨h.os, h.tape, h.output, by simpa using h.size, fun k hk hn => (Below.heap_setCell w' ⟨b, i, none⟩ u k (fun e => hn (by rw [e]))).trans (h.block k hk hn)⟩
theorem only_trans {w w' w'' : World} {r : Option Nat} (h : w.grownBy w' r) (k : w'.grownBy w'' r) : w.grownBy w'' r :=
  ⟨k.os.trans h.os, k.tape.trans h.tape, k.output.trans h.output, Nat.le_trans h.size k.size, fun j hj hn => (k.block j (Nat.lt_of_lt_of_le hj h.size) hn).trans (h.block j hj hn)⟩
theorem only_of_below {w w' : World} {r : Option Nat} (h : Below w.heap.size w w') : w.grownBy w' r := ⟨h.os, h.tape, h.output, h.size, fun k hk _ => h.block k hk⟩
theorem only_below {w w' : World} {B b : Nat} (h : w.grownBy w' (some b)) (hB : B ≤ b) (hw : B ≤ w.heap.size) : Below B w w' :=
  ⟨h.os, h.tape, h.output, h.size, fun k hk => h.block k (by omega) (by intro e; cases e; omega)⟩

theorem CodeOk.below {B : Nat} {w w' : World} {v : Value} (h : CodeOk B w v) (hb : Below B w w') : CodeOk B w' v := by
  obtain ⟨a, len, cap, rfl, hl, hx⟩ := h
  refine ⟨a, len, cap, rfl, hl, ?_⟩
  rcases hx with hx | ⟨cb, off, rfl, hlt, hc⟩
  · exact .inl hx
  · exact .inr ⟨cb, off, rfl, hlt, fun i hi => by
      obtain ⟨x, hx, hc⟩ := hc i hi
      exact ⟨x, hx, (hb.cell (p := ⟨cb, off + i, none⟩) hlt).trans hc⟩⟩

theorem Cur.below {B b N : Nat} {w w' : World} (h : Cur B w b N) (hb : Below w.heap.size w w') : Cur B w' b N := by
  obtain ⟨h1, h2, v, f, at_, sd, hr, e0, e1, e2, hN, hsd, hc⟩ := h
  exact ⟨h1, Nat.le_trans h2 hb.size, v, f, at_, sd, hr.of_block (hb.block b hr.lt), e0, e1, e2, hN, hsd, hc.below (hb.mono h2)⟩

theorem only_then {w W w' : World} {r : Option Nat} (h : w.grownBy W r) (k : Below w.heap.size W w') : w.grownBy w' r :=
  ⟨k.os.trans h.os, k.tape.trans h.tape, k.output.trans h.output, Nat.le_trans h.size k.size, fun j hj hn => (k.block j hj).trans (h.block j hj hn)⟩

theorem Cur.under {B b N C : Nat} {w w' : World} (h : Cur B w b N) (hC : b < C) (hBC : B ≤ C) (hb : Below C w w') : Cur B w' b N := by
  obtain ⟨h1, h2, v, f, at_, sd, hr, e0, e1, e2, hN, hsd, hc⟩ := h
  exact ⟨h1, Nat.le_trans h2 hb.size, v, f, at_, sd, hr.of_block (hb.block b hC), e0, e1, e2, hN, hsd, hc.below (hb.mono hBC)⟩

theorem Cur.mono {B b N N' : Nat} {w : World} (h : Cur B w b N) (hN : N ≤ N') : Cur B w b N' := by
  obtain ⟨h1, h2, v, f, at_, sd, hr, e0, e1, e2, hN0, r⟩ := h
  exact ⟨h1, h2, v, f, at_, sd, hr, e0, e1, e2, by omega, r⟩

theorem Cur.drew {B b N : Nat} {w : World} (h : Cur B w b N) : Cur B w.drew b N := h

theorem Cur.step {B b N at_ sd : Nat} {w : World} {v : Value} {f : Nat → Value} (hB : B ≤ b) (hBw : B ≤ w.heap.size) (hr : w.rowIs b 109 3 f) (he : f 0 = v ∧ f 1 = .int .i64 at_ ∧ f 2 = .int .u64 sd) (hat : at_ ≤ N) (hc : CodeOk B w v) (z : Int) :
    Cur B ((w.setCell ⟨b, 1, none⟩ (.int .i64 ((at_ : Int) + 1))).setCell ⟨b, 2, none⟩ (.int .u64 (IntKind.u64.wrap z))) b (N + 1) := by
  obtain ⟨m, hm, hlt⟩ := wrap_u64_nat z
  have hr2 := (hr.set 1 (.int .i64 ((at_ : Int) + 1))).set 2 (.int .u64 (IntKind.u64.wrap z))
  have hb : Below B w ((w.setCell ⟨b, 1, none⟩ (.int .i64 ((at_ : Int) + 1))).setCell ⟨b, 2, none⟩ (.int .u64 (IntKind.u64.wrap z))) := ((Below.refl B w).setCell (p := ⟨b, 1, none⟩) hB _).setCell (p := ⟨b, 2, none⟩) hB _
  exact ⟨hB, by have := hb.size; omega, v, _, at_ + 1, m, hr2, by simpa using he.1, by simp, by simp [hm], by omega, hlt, hc.below hb⟩

set_option maxHeartbeats 2000000 in
theorem next_any (B b N : Nat) (w : World) (h : Cur B w b N) (hN : N ≤ 1152921504606846975) :
    Calls Try.prog 166 #[.pointer (some ⟨b, 0, none⟩)] w fun e w' => ∃ x : Nat, x < 256 ∧ e = .returned (.int .i64 x) ∧ Cur B w' b (N + 1) ∧ w.grownBy w' (some b) := by
  obtain ⟨hB, hBw, v, f, at_, sd, hr, e0, e1, e2, hat, hsd, hc⟩ := h
  have c0 := hr.cell (i := 0) (by omega)
  have c1 := hr.cell (i := 1) (by omega)
  have c2 := hr.cell (i := 2) (by omega)
  have f1 := hr.frozen 1
  have f2 := hr.frozen 2
  rw [e0] at c0
  rw [e1] at c1
  rw [e2] at c2
  have HC := hid hc
  obtain ⟨a, len, cap, rfl, hlen, hx⟩ := hc
  have HR := hid hr
  have HE := hid (And.intro e0 (And.intro e1 e2))
  clear hr e0 e1 e2
  by_cases hlt : at_ < len
  · obtain ⟨cb, off, rfl, hcb, hcs⟩ : ∃ cb off, a = some ⟨cb, off, none⟩ ∧ cb < B ∧ ∀ i, i < len → ∃ x : Nat, x < 256 ∧ w.cell? ⟨cb, off + i, none⟩ = some (.int .u8 x) := by
      rcases hx with hx | hx
      · omega
      · exact hx
    obtain ⟨x, hx256, hcx⟩ := hcs at_ hlt
    clear hcs hx
    go_enter Try.func166, Try.ntmps166
    go_wp2
    go_region
    all_goals go_wp2
    all_goals go_region
    all_goals go_wp2
    all_goals go_region
    all_goals go_wp2
    go_ret
    exact ⟨x, hx256, rfl, (Cur.step hB hBw HR.out HE.out hat HC.out _).drew.drew.drew, only_drew (only_drew (only_drew (only_set (only_set (only_refl w _) 1 _) 2 _)))⟩
  · clear hx
    go_enter Try.func166, Try.ntmps166
    go_wp2
    go_region
    all_goals go_wp2
    all_goals go_region
    all_goals go_wp2
    go_ret
    obtain ⟨n, hn, he⟩ := and_255_back (IntKind.u64.wrap (IntKind.u64.wrap ((sd : Int) * 6364136223846793005)) + 1442695040888963407)
    exact ⟨n, hn, congrArg (fun z => Ending.returned (.int .i64 z)) he, (Cur.step hB hBw HR.out HE.out hat HC.out _).drew.drew, only_drew (only_drew (only_set (only_set (only_refl w _) 1 _) 2 _))⟩
end Go.Proofs.Ytnkpboobfkjibad
namespace Go.Proofs.Ytnkpboobfkjibad
open Go.RowKit

/-- What the walk is told of a slice of integers that came in. -/
def IsRow (k : IntKind) (w : World) (a : Option Addr) (len cap : Nat) (zs : List Int) : Prop :=
  (a = none ∧ len = 0 ∧ cap = 0 ∧ zs = []) ∨
  ∃ x, a = some x ∧ len ≤ cap ∧ cap ≤ maxLen ∧ zs.length = cap ∧ (∀ i, i < zs.length → w.cell? (x.add i) = some (.int k (zs.getD i 0))) ∧ ∀ n ∈ zs, (Lit.int k n).wf = true
end Go.Proofs.Ytnkpboobfkjibad
namespace Go.Proofs.Ytnkpboobfkjibad
open Go.RowKit

theorem code_of_row {w : World} {a : Option Addr} {len cap : Nat} {zs : List Int} (h : IsRow .u8 w a len cap zs) (hl : len ≤ 1048576) : CodeOk w.heap.size w (.slice a len cap) := by
  rcases h with ⟨rfl, rfl, rfl, rfl⟩ | ⟨x, rfl, hlc, hcm, hz, hcell, hwf⟩
  · exact ⟨none, 0, 0, rfl, by omega, .inl rfl⟩
  · refine ⟨some x, len, cap, rfl, hl, ?_⟩
    by_cases h0 : len = 0
    · exact .inl h0
    · right
      obtain ⟨b, off, spot⟩ := x
      have hspot : spot = none := by simpa [Addr.add] using World.cell?_spot (hcell 0 (by omega))
      subst hspot
      have hc : ∀ i, i < len → w.cell? ⟨b, off + i, none⟩ = some (.int .u8 (zs.getD i 0)) := fun i hi => by
        have := hcell i (by omega)
        rcases i with _ | i <;> simpa [Addr.add] using this
      refine ⟨b, off, rfl, lt_of_cell (hc 0 (by omega)), fun i hi => ?_⟩
      have hr := range_u8 hwf i
      refine ⟨(zs.getD i 0).toNat, ?_, ?_⟩
      · rw [List.getD_eq_getElem?_getD]; omega
      · rw [hc i hi, List.getD_eq_getElem?_getD]
        congr 2
        omega
end Go.Proofs.Ytnkpboobfkjibad
