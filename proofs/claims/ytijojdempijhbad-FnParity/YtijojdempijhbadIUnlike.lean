/-
  impl.unlikeTogether: all texts of one length together, bit for bit unlike; nothing old is written.
-/
import Derived.Test.YtijojdempijhbadPiMath
import Derived.Laws.BitsAllLaws
namespace Go.Proofs.Ytijojdempijhbad
open Go.RowKit

set_option maxHeartbeats 2000000 in
theorem iunlike_any (v : Value) (xs : List XEl) (n : Nat) (w : World) (hr : XReads w v xs) (hn : n ≤ 16) (hs : ∀ s ∈ xs, s.size = n) :
    Calls Try.prog 148 #[.int .i64 (n : Nat), v] w fun e w' => e = .returned (.string ⟨(xorL xs n).toArray⟩) ∧ Below w.heap.size w w' := by
  obtain ⟨a, cap, rfl, hl, hx⟩ := hr
  obtain ⟨i0, hi, hz0, hz1, hz2⟩ := info_parts info_u8
  have HX := hid hx
  have HN := hid hs
  clear hx hs
  go_enter Try.func148, Try.ntmps148
  go_wp2_with (at_make; refine wpList_make_row _ rfl _ _ 22 rfl 5 i0 (.int .u8 0) Try.underlying22 hi hz0 hz1 rfl .i64 .i64 n rfl rfl (by rw [hz2]; omega) (by omega) ?_)
  go_loopw [13] (fun i wr => ∃ k : Nat, k ≤ xs.length ∧ i = .int .i64 (k : Nat) ∧ wr.rowIs w.heap.size 5 n (fun j => .int .u8 ((xorB (xs.take k) j).toNat : Nat)) ∧ Below w.heap.size w wr) (fun i _ => xs.length - (intOf i).toNat)
  case atStart =>
    refine ⟨0, Nat.zero_le _, rfl, ?_, (Below.refl _ _).alloc (Nat.le_refl _) _⟩
    exact (World.rowIs_made w (.int .u8 0) n 5).congr fun j hj => by simp [xorB]
  case round =>
    obtain ⟨k, hk, rfl, hrow, hbel⟩ := hrel
    by_cases hlt : k < xs.length
    · obtain ⟨b, off, rfl, hcs⟩ : ∃ b off, a = some ⟨b, off, none⟩ ∧ ∀ i, i < xs.length → XCells w b (off + i) (xs.getD i xz) := by
        rcases HX.out with h | h
        · subst h; simp at hlt
        · exact h
      have c0 : _ = _ := (hcs k hlt).below hbel (hcs k hlt).lt
      have HTk := hid (fun j => xorB_take xs k j hlt)
      have hsn : (xs.getD k xz).size = n := HN.out _ (by simp [List.getD_eq_getElem?_getD, hlt])
      obtain ⟨s, hs⟩ : ∃ s, xs.getD k xz = s := ⟨_, rfl⟩
      rw [hs] at c0 HTk hsn
      have HR := hid hrow
      have HB := hid hbel
      have HSN := hid hsn
      clear hs hcs hrow hbel hsn
      have hltd : (k : Int) < (xs.length : Int) := by omega
      go_wp2_with fail
      go_loopw [19] (fun i wr' => ∃ p : Nat, p ≤ n ∧ i = .int .i64 (p : Nat) ∧ wr'.rowIs w.heap.size 5 n (fun j => .int .u8 (((if j < p then xorB (xs.take (k + 1)) j else xorB (xs.take k) j) : UInt8).toNat : Nat)) ∧ Below w.heap.size w wr') (fun i _ => n - (intOf i).toNat)
      case atStart => exact ⟨0, Nat.zero_le _, rfl, HR.out.congr fun j _ => by simp, HB.out⟩
      case round =>
        obtain ⟨p, hp, rfl, hrow2, hbel2⟩ := hrel
        by_cases hpn : p < n
        · have hps : p < s.size := by rw [HSN.out]; exact hpn
          have hfz := hrow2.frozen p
          have hcl := hrow2.cell (i := p) hpn
          rw [if_neg (Nat.lt_irrefl p)] at hcl
          have hv : Hid ((s[p]'hps) = bt s p) := bt_eq s p hps
          have HT2 := hid (HTk.out p)
          obtain ⟨y, hy⟩ : ∃ y, xorB (xs.take k) p = y := ⟨_, rfl⟩
          rw [hy] at hcl HT2
          have hx : bits .xor .u8 (y.toNat : Int) ((s[p]'hps).toNat : Int) = ((y ^^^ (s[p]'hps)).toNat : Nat) := by
            rw [u8_xor_nat _ _ (UInt8.toNat_lt _) (UInt8.toNat_lt _), UInt8.toNat_xor]
          have HR2 := hid hrow2
          have HB2 := hid hbel2
          clear hrow2 hbel2 hy
          have hpd : (p : Int) < (n : Int) := by omega
          go_wp2_with fail
          go_region
          all_goals go_wp2
          all_goals go_roundw
          case rel =>
            refine ⟨p + 1, by omega, by go_num, ?_, (HB2.out.setCell (Nat.le_refl _) _).drew⟩
            refine ((HR2.out.set p _).drew).congr fun j hj => ?_
            by_cases e : j = p
            · subst e
              rw [if_pos rfl, if_pos (by omega), HT2.out, hv.out, UInt8.toNat_xor]
            · rw [if_neg e]
              by_cases h : j < p
              · rw [if_pos h, if_pos (by omega)]
              · rw [if_neg h, if_neg (by omega)]
          case measure => simp [intOf]; omega
        · obtain rfl : p = n := by omega
          go_wp2
          go_roundw
          case rel => exact ⟨k + 1, by omega, by go_num, hrow2.congr fun j hj => by rw [if_pos hj], hbel2⟩
          case measure => simp [intOf]; omega
    · obtain rfl : k = xs.length := by omega
      rw [List.take_length] at hrow
      have hconv := conv_row wr w.heap.size n (xorL xs n) (fun j hj => by
        have hj' : j < n := by rw [length_xorL] at hj; exact hj
        rw [hrow.cell hj', xorL_get xs n j hj'])
      rw [length_xorL] at hconv
      have HB := hid hbel
      clear hrow hbel
      go_wp2
      go_ret
      exact ⟨rfl, HB.out⟩
end Go.Proofs.Ytijojdempijhbad
