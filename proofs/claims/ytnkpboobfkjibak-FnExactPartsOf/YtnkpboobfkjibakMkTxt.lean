/-
  A number as a text: laws.markText tells it.
-/
import Derived.Test.YtnkpboobfkjibakPcRow
import Derived.Deep.RegionHeld3
import Derived.Laws.Concat
namespace Go.Proofs.Ytnkpboobfkjibak
open Go.RowKit

/-- The decimal digits of k, ahead of what is there. -/
def dgF : Nat → Nat → List UInt8 → List UInt8
  | 0, _, o => o
  | n + 1, k, o => if k = 0 then o else dgF n (k / 10) (UInt8.ofNat (48 + k % 10) :: o)
theorem dgF_zero (n : Nat) (o : List UInt8) : dgF n 0 o = o := by cases n <;> simp [dgF]
theorem dgF_step (n k : Nat) (o : List UInt8) (h : 0 < k) : dgF (n + 1) k o = dgF n (k / 10) (UInt8.ofNat (48 + k % 10) :: o) := by simp [dgF]; omega
def mkTxt (k : Nat) : ByteArray := ⟨(109 :: dgF 20 k []).toArray⟩

theorem one_conv (w : World) (d : Nat) (hd : d < 256) : (convert 87 9 (.slice (some ⟨w.heap.size, 0, none⟩) 1 1)).run Try.prog (w.alloc (.cells #[.int .u8 (d : Nat)] 5)) = .ok (.string ⟨[UInt8.ofNat d].toArray⟩) (w.alloc (.cells #[.int .u8 (d : Nat)] 5)) := by
  refine conv_row _ w.heap.size 1 [UInt8.ofNat d] fun j hj => ?_
  obtain rfl : j = 0 := by simpa using hj
  rw [cell_of_row _ _ _ _ _ (0, 0) (heap_alloc_new w _)]
  simp
  omega

set_option maxHeartbeats 2000000 in
theorem markText_any (k : Nat) (w : World) (h1 : 0 < k) (h2 : k ≤ 1000000000) :
    Calls Try.prog 43 #[.int .i64 (k : Nat)] w fun e w' => e = .returned (.string (mkTxt k)) ∧ Below w.heap.size w w' := by
  have hd0 : ¬ (k : Int) ≤ 0 := by omega
  have hd1 : decide ((k : Int) ≤ 0) = false := by simpa using hd0
  go_enter Try.func43, Try.ntmps43
  go_wp2
  go_loopw [0, 3] (fun kv ov wr => ∃ (j n : Nat) (o : List UInt8), kv = .int .i64 (j : Nat) ∧ ov = .string ⟨o.toArray⟩ ∧ dgF n j o = dgF 20 k [] ∧ (j < 10 ^ n ∧ j ≤ k ∧ n ≤ 20 ∧ o.length + n = 20) ∧ Below w.heap.size w wr) (fun kv _ _ => (intOf kv).toNat)
  case atStart => exact ⟨k, 20, [], rfl, rfl, rfl, ⟨by omega, Nat.le_refl _, Nat.le_refl _, rfl⟩, Below.refl _ _⟩
  case round =>
    obtain ⟨j, n, o, rfl, rfl, hdg, ⟨hj, hjk, hn, ho⟩, hbel⟩ := hrel
    by_cases hpos : 0 < j
    · have hposd : (j : Int) > 0 := by omega
      obtain ⟨m, rfl⟩ : ∃ m, n = m + 1 := ⟨n - 1, by rcases n with _ | n; simp at hj; omega; omega⟩
      rw [dgF_step m j o hpos] at hdg
      obtain ⟨q, hq⟩ : ∃ q, j % 10 = q := ⟨_, rfl⟩
      obtain ⟨z, hz⟩ : ∃ z, j / 10 = z := ⟨_, rfl⟩
      have hq10 : q < 10 := by omega
      have hzj : z < j := by omega
      have hz2 : z < 10 ^ m := by rw [← hz]; rw [Nat.pow_succ] at hj; omega
      rw [hq, hz] at hdg
      have e1 : (j : Int).tmod 10 = (q : Nat) := by rw [Int.tmod_eq_emod_of_nonneg (by omega), ← hq]; rfl
      have e2 : (j : Int) % 10 = (q : Nat) := by rw [← hq]; rfl
      have e3 : (j : Int).tdiv 10 = (z : Nat) := by rw [Int.tdiv_eq_ediv_of_nonneg (by omega), ← hz]; rfl
      have e4 : (j : Int) / 10 = (z : Nat) := by rw [← hz]; rfl
      obtain ⟨d, hd⟩ : ∃ d, 48 + q = d := ⟨_, rfl⟩
      have e5 : (48 : Int) + (q : Int) = (d : Nat) := by rw [← hd]; simp
      have hd57 : d ≤ 57 := by omega
      rw [hd] at hdg
      have e6 : IntKind.i64.wrap (d : Int) = (d : Nat) := by rw [IntKind.wrap_i64]; omega
      have e7 : IntKind.u8.wrap (d : Int) = (d : Nat) := by rw [IntKind.wrap_u8]; omega
      have hconv := one_conv wr d (by omega)
      have hadd := fun W => run_string_add_sum (P := Try.prog) W ⟨[UInt8.ofNat d].toArray⟩ ⟨o.toArray⟩ (by simp [ByteArray.size]; omega)
      have happ : Hid ((⟨[UInt8.ofNat d].toArray⟩ : ByteArray) ++ ⟨o.toArray⟩ = ⟨(UInt8.ofNat d :: o).toArray⟩) := by
        show _ = _
        rw [ByteArray.mk_append_mk]
        simp
      rw [happ.out] at hadd
      have HD := hid hdg
      have HB := hid hbel
      clear hdg hbel hq hz hd happ
      go_wp2
      go_roundw
      case rel => exact ⟨z, m, _, rfl, rfl, HD.out, ⟨hz2, by omega, by omega, by simp; omega⟩, HB.out.alloc HB.out.size _⟩
      case measure => simp [intOf]; omega
    · obtain rfl : j = 0 := by omega
      rw [dgF_zero] at hdg
      have hadd := run_string_add_sum (P := Try.prog) wr ⟨#[109]⟩ ⟨o.toArray⟩ (by simp [ByteArray.size]; omega)
      have happ : Hid ((⟨#[109]⟩ : ByteArray) ++ ⟨o.toArray⟩ = mkTxt k) := by
        show _ = _
        unfold mkTxt
        rw [← hdg, ByteArray.mk_append_mk]
        simp
      rw [happ.out] at hadd
      have HB := hid hbel
      clear hdg hbel happ
      go_wp2
      go_ret
      exact ⟨rfl, HB.out⟩

theorem markText_int (k : Int) (w : World) (h1 : 0 < k) (h2 : k ≤ 1000000000) :
    Calls Try.prog 43 #[.int .i64 k] w fun e w' => e = .returned (.string (mkTxt k.toNat)) ∧ Below w.heap.size w w' := by
  obtain ⟨n, rfl⟩ := Int.eq_ofNat_of_zero_le (show 0 ≤ k by omega)
  exact markText_any n w (by omega) (by omega)
end Go.Proofs.Ytnkpboobfkjibak
