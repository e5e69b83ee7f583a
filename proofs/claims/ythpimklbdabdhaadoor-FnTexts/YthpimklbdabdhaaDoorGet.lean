/-
  impl.GetNumber and spec.l1Get read the number that stands at a place of a text, or answer with the zero answer; they write nothing.
-/
import Derived.Test.YthpimklbdabdhaaDoorGetMath
namespace Go.Proofs.YthpimklbdabdhaaDoor
open Go.RowKit

theorem cell_of_class {w : World} (hT : Tab w) (s : ByteArray) (k : Nat) : w.cell? ⟨0, gcl s k * 2, none⟩ = some (.int .i64 (gsz s k : Nat)) := by
  obtain ⟨t0, t1, t2, t3, t4, t5, t6, t7⟩ := hT
  have h := gcl_le s k
  unfold gsz
  generalize gcl s k = c at h
  rcases (by omega : c = 0 ∨ c = 1 ∨ c = 2 ∨ c = 3) with rfl | rfl | rfl | rfl
  · exact t0
  · exact t2
  · exact t4
  · exact t6

set_option maxHeartbeats 1000000 in
theorem get_loop (s : ByteArray) (k : Nat) (w : World) (hT : Tab w) (hs : s.size ≤ maxLen) (hk : k < s.size) (hfit : gsz s k ≤ s.size - k) :
    Calls Tryd.prog 10 #[.string s, .int .i64 k] w fun e w' => (GoodAt s k → e = .returned (.tuple #[.int .i64 (gnum s k : Nat), .int .i64 (k + gsz s k : Nat), .bool true])) ∧ (¬ GoodAt s k → e = .returned (.tuple #[.int .i64 0, .int .i64 0, .bool false])) ∧ w' = w := by
  unfold maxLen at hs
  have hcell := cell_of_class hT s k
  have HT : Hid (Tab w) := hT
  have Hz : Hid (gsz s k = 1 ∨ gsz s k = 2 ∨ gsz s k = 4 ∨ gsz s k = 8) := gsz_is s k
  have hz8 : gsz s k ≤ 8 := by have := Hz.out; omega
  have hz1 : 1 ≤ gsz s k := by have := Hz.out; omega
  have hcl : gcl s k ≤ 3 := gcl_le s k
  have hc : (((s[k]'hk).toNat : Nat) : Int) / 64 = (gcl s k : Nat) := by unfold gcl; rw [sb_eq s k hk]; omega
  have hm : (((s[k]'hk).toNat : Nat) : Int) % 64 = (gval s k 0 : Nat) := by unfold gval; rw [sb_eq s k hk]; omega
  clear hT
  generalize hcg : gcl s k = c at *
  have hcg' : Hid (gcl s k = c) := hcg; clear hcg
  generalize hzg : gsz s k = z at *
  have hzg' : Hid (gsz s k = z) := hzg; clear hzg
  have hd1 : decide (s.size ≤ k) = false := by simp; omega
  have hd2 : decide ((k : Int) < 0) = false := by simp
  have hd3 : decide ((s.size : Int) - (k : Int) < (z : Int)) = false := by simp; omega
  go_enter Tryd.func10, Tryd.ntmps10
  go_wp2_with fail
  go_loopw [8, 9] (fun n i wr => ∃ j : Nat, 1 ≤ j ∧ j ≤ z ∧ i = .int .i64 j ∧ n = .int .i64 (gval s k (j - 1) : Nat) ∧ w = wr) (fun _ i _ => z - (intOf i).toNat)
  case atStart => exact ⟨1, Nat.le_refl _, hz1, rfl, rfl, rfl⟩
  case round =>
    obtain ⟨j, hj1, hjz, rfl, rfl, rfl⟩ := hrel
    by_cases hlt : j < z
    · have hx := gval_lt7 s k (j - 1) (by omega)
      have hsk : k + j < s.size := by omega
      have hstep : Hid (gval s k j = gval s k (j - 1) * 256 + (s[k + j]'hsk).toNat) := by
        show gval s k j = _
        obtain ⟨i, rfl⟩ : ∃ i, j = i + 1 := ⟨j - 1, by omega⟩
        rw [← sb_eq s _ hsk]
        rfl
      have hb := UInt8.toNat_lt (s[k + j]'hsk)
      clear hc hm hcell
      generalize gval s k (j - 1) = x at hx hstep ⊢
      go_wp2
      go_roundw
      case rel =>
        refine ⟨j + 1, by omega, by omega, by go_num, ?_, trivial⟩
        rw [or_byte x (s[k + j]'hsk).toNat hx (by omega), Nat.add_sub_cancel, hstep.out]
      case measure => simp [intOf]; omega
    · obtain rfl : j = z := by omega
      have hnum : Hid (gval s k (j - 1) = gnum s k) := by
        show _ = _
        unfold gnum
        rw [hzg'.out]
      rw [hnum.out]
      clear hnum hc hm hcell hlt
      have hgood : Hid (GoodAt s k ↔ gnum s k ≤ 1152921504606846975 ∧ szI (gnum s k) = j) := by
        show _ ↔ _
        unfold GoodAt
        rw [hzg'.out]
        constructor
        · rintro ⟨_, _, a, b⟩; exact ⟨a, b⟩
        · rintro ⟨a, b⟩; exact ⟨hk, hfit, a, b⟩
      clear hzg'
      by_cases hv : gnum s k ≤ 1152921504606846975
      · by_cases hsv : szI (gnum s k) = j
        · have hne : ((szI (gnum s k) : Int) != (j : Int)) = false := by simp [hsv]
          have HS : Hid (szI (gnum s k) = j) := hsv
          clear hsv
          go_wp2_with (go_at_call 8; refine (size_yes (gnum s k) _ HT.out (by omega) (by omega)).mono ?_; rintro e w' ⟨rfl, hw⟩; obtain rfl := hw.symm)
          go_ret3
          exact ⟨fun _ => by rfl, fun hn => absurd (hgood.out.2 ⟨hv, HS.out⟩) hn, rfl⟩
        · have hne : ((szI (gnum s k) : Int) != (j : Int)) = true := by simp [hsv]
          have HS : Hid (¬ szI (gnum s k) = j) := hsv
          clear hsv
          go_wp2_with (go_at_call 8; refine (size_yes (gnum s k) _ HT.out (by omega) (by omega)).mono ?_; rintro e w' ⟨rfl, hw⟩; obtain rfl := hw.symm)
          go_ret3
          exact ⟨fun hg => absurd (hgood.out.1 hg).2 HS.out, fun _ => rfl, rfl⟩
      · have hv' : Hid ((gnum s k : Int) < 0 ∨ (1152921504606846975 : Int) < gnum s k) := by show _ ∨ _; omega
        go_wp2_with (go_at_call 8; refine (size_no (gnum s k) _ HT.out hv'.out).mono ?_; rintro e w' ⟨rfl, hw⟩; obtain rfl := hw.symm)
        go_ret3
        exact ⟨fun hg => absurd (hgood.out.1 hg).1 hv, fun _ => rfl, rfl⟩

/-- Too few bytes are left. -/
theorem get_short (s : ByteArray) (k : Nat) (w : World) (hT : Tab w) (hs : s.size ≤ maxLen) (hk : k < s.size) (hfit : ¬ gsz s k ≤ s.size - k) :
    Calls Tryd.prog 10 #[.string s, .int .i64 k] w fun e w' => e = .returned (.tuple #[.int .i64 0, .int .i64 0, .bool false]) ∧ w' = w := by
  unfold maxLen at hs
  have hcell := cell_of_class hT s k
  have hz8 : gsz s k ≤ 8 := by have := gsz_is s k; omega
  have hcl : gcl s k ≤ 3 := gcl_le s k
  have hc : (((s[k]'hk).toNat : Nat) : Int) / 64 = (gcl s k : Nat) := by unfold gcl; rw [sb_eq s k hk]; omega
  clear hT
  generalize gcl s k = c at *
  generalize gsz s k = z at *
  have hd1 : decide (s.size ≤ k) = false := by simp; omega
  have hd2 : decide ((k : Int) < 0) = false := by simp
  have hd3 : decide ((s.size : Int) - (k : Int) < (z : Int)) = true := by simp; omega
  go_enter Tryd.func10, Tryd.ntmps10
  go_wp2
  go_ret3
  exact ⟨rfl, rfl⟩

/-- No such place. -/
theorem get_out (s : ByteArray) (a : Int) (w : World) (hs : s.size ≤ maxLen) (h : a < 0 ∨ (s.size : Int) ≤ a) :
    Calls Tryd.prog 10 #[.string s, .int .i64 a] w fun e w' => e = .returned (.tuple #[.int .i64 0, .int .i64 0, .bool false]) ∧ w' = w := by
  unfold maxLen at hs
  rcases h with h | h
  · go_enter Tryd.func10, Tryd.ntmps10
    go_wp2
    go_ret3
    exact ⟨rfl, rfl⟩
  · have h0 : ¬ a < 0 := by omega
    go_enter Tryd.func10, Tryd.ntmps10
    go_wp2
    go_ret3
    exact ⟨rfl, rfl⟩

/-- impl.GetNumber, a number stands there. -/
theorem get_yes (s : ByteArray) (k : Nat) (w : World) (hT : Tab w) (hs : s.size ≤ maxLen) (h : GoodAt s k) :
    Calls Tryd.prog 10 #[.string s, .int .i64 k] w fun e w' => e = .returned (.tuple #[.int .i64 (gnum s k : Nat), .int .i64 (k + gsz s k : Nat), .bool true]) ∧ w' = w :=
  (get_loop s k w hT hs h.1 h.2.1).mono fun _ _ ⟨a, _, c⟩ => ⟨a h, c⟩

/-- impl.GetNumber, none stands there. -/
theorem get_no (s : ByteArray) (a : Int) (w : World) (hT : Tab w) (hs : s.size ≤ maxLen) (h : ¬ (0 ≤ a ∧ GoodAt s a.toNat)) :
    Calls Tryd.prog 10 #[.string s, .int .i64 a] w fun e w' => e = .returned (.tuple #[.int .i64 0, .int .i64 0, .bool false]) ∧ w' = w := by
  by_cases ho : a < 0 ∨ (s.size : Int) ≤ a
  · exact get_out s a w hs ho
  · obtain ⟨k, rfl⟩ := Int.eq_ofNat_of_zero_le (show 0 ≤ a by omega)
    have hn : ¬ GoodAt s k := fun hg => h ⟨by omega, by simpa using hg⟩
    by_cases hf : gsz s k ≤ s.size - k
    · exact (get_loop s k w hT hs (by omega) hf).mono fun _ _ ⟨_, b, c⟩ => ⟨b hn, c⟩
    · exact get_short s k w hT hs (by omega) hf
end Go.Proofs.YthpimklbdabdhaaDoor
