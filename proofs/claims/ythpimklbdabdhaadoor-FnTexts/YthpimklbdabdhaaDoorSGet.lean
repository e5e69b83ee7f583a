/-
  spec.l1Get reads the number that stands at a place of a text, or answers with -1 as the place behind; it writes nothing.
-/
import Derived.Test.YthpimklbdabdhaaDoorGetMath
namespace Go.Proofs.YthpimklbdabdhaaDoor
open Go.RowKit

theorem pow_class (s : ByteArray) (k : Nat) : (2 : Int) ^ gcl s k = (gsz s k : Nat) := by
  have h := gcl_le s k
  unfold gsz
  generalize gcl s k = c at h
  rcases (by omega : c = 0 ∨ c = 1 ∨ c = 2 ∨ c = 3) with rfl | rfl | rfl | rfl <;> rfl

set_option maxHeartbeats 1000000 in
theorem l1Get_loop (s : ByteArray) (k : Nat) (w : World) (hs : s.size ≤ maxLen) (hk : k < s.size) (hfit : gsz s k ≤ s.size - k) :
    Calls Tryd.prog 39 #[.string s, .int .i64 k] w fun e w' => (GoodAt s k → e = .returned (.tuple #[.int .i64 (gnum s k : Nat), .int .i64 (k + gsz s k : Nat)])) ∧ (¬ GoodAt s k → e = .returned (.tuple #[.int .i64 0, .int .i64 (-1)])) ∧ w' = w := by
  unfold maxLen at hs
  have hpow : (2 : Int) ^ gcl s k = (gsz s k : Nat) := pow_class s k
  have Hz : Hid (gsz s k = 1 ∨ gsz s k = 2 ∨ gsz s k = 4 ∨ gsz s k = 8) := gsz_is s k
  have hz8 : gsz s k ≤ 8 := by have := Hz.out; omega
  have hz1 : 1 ≤ gsz s k := by have := Hz.out; omega
  have hcl : gcl s k ≤ 3 := gcl_le s k
  have hc : (((s[k]'hk).toNat : Nat) : Int) / 64 = (gcl s k : Nat) := by unfold gcl; rw [sb_eq s k hk]; omega
  have hm : (((s[k]'hk).toNat : Nat) : Int) % 64 = (gval s k 0 : Nat) := by unfold gval; rw [sb_eq s k hk]; omega
  generalize hcg : gcl s k = c at *
  have hcg' : Hid (gcl s k = c) := hcg; clear hcg
  generalize hzg : gsz s k = z at *
  have hzg' : Hid (gsz s k = z) := hzg; clear hzg
  have hd1 : decide (s.size ≤ k) = false := by simp; omega
  have hd3 : decide ((s.size : Int) - (k : Int) < (z : Int)) = false := by simp; omega
  go_enter Tryd.func39, Tryd.ntmps39
  go_wp2_with fail
  go_loopw [7, 8] (fun n i wr => ∃ j : Nat, 1 ≤ j ∧ j ≤ z ∧ i = .int .i64 j ∧ n = .int .i64 (gval s k (j - 1) : Nat) ∧ w = wr) (fun _ i _ => z - (intOf i).toNat)
  case atStart => exact ⟨1, Nat.le_refl _, hz1, rfl, rfl, rfl⟩
  case round =>
    obtain ⟨j, hj1, hjz, rfl, rfl, rfl⟩ := hrel
    by_cases hlt : j < z
    · have hx := gval_lt7 s k (j - 1) (by omega)
      have hsk : k + j < s.size := by omega
      have hstep : Hid (gval s k j = gval s k (j - 1) * 256 + (s[k + j]'hsk).toNat) := by
        show gval s k j = _
        obtain ⟨i, rfl⟩ : ∃ i, j = i + 1 := ⟨j - 1, by omega⟩
        rw [← sb_eq s _ hsk]
        rfl
      have hb := UInt8.toNat_lt (s[k + j]'hsk)
      clear hc hm hpow
      generalize gval s k (j - 1) = x at hx hstep ⊢
      go_wp2
      go_roundw
      case rel =>
        refine ⟨j + 1, by omega, by omega, by go_num, ?_, trivial⟩
        rw [or_byte x (s[k + j]'hsk).toNat hx (by omega), Nat.add_sub_cancel, hstep.out]
      case measure => simp [intOf]; omega
    · obtain rfl : j = z := by omega
      have hnum : Hid (gval s k (j - 1) = gnum s k) := by
        show _ = _
        unfold gnum
        rw [hzg'.out]
      rw [hnum.out]
      clear hnum hc hm hpow hlt
      have hgood : Hid (GoodAt s k ↔ gnum s k ≤ 1152921504606846975 ∧ szI (gnum s k) = j) := by
        show _ ↔ _
        unfold GoodAt
        rw [hzg'.out]
        constructor
        · rintro ⟨_, _, a, b⟩; exact ⟨a, b⟩
        · rintro ⟨a, b⟩; exact ⟨hk, hfit, a, b⟩
      clear hzg'
      by_cases hv : gnum s k ≤ 1152921504606846975
      · by_cases hsv : szI (gnum s k) = j
        · have hne : ((szI (gnum s k) : Int) != (j : Int)) = false := by simp [hsv]
          have HS : Hid (szI (gnum s k) = j) := hsv
          clear hsv
          go_wp2_with (first | (go_at_call 30; refine (number_yes (gnum s k) _ (by omega) (by omega)).mono ?_; rintro e w' ⟨rfl, hw⟩; obtain rfl := hw.symm) | (go_at_call 32; refine (l1Size_any (gnum s k) _).mono ?_; rintro e w' ⟨rfl, hw⟩; obtain rfl := hw.symm))
          go_ret2
          exact ⟨fun _ => by rfl, fun hn => absurd (hgood.out.2 ⟨hv, HS.out⟩) hn, rfl⟩
        · have hne : ((szI (gnum s k) : Int) != (j : Int)) = true := by simp [hsv]
          have HS : Hid (¬ szI (gnum s k) = j) := hsv
          clear hsv
          go_wp2_with (first | (go_at_call 30; refine (number_yes (gnum s k) _ (by omega) (by omega)).mono ?_; rintro e w' ⟨rfl, hw⟩; obtain rfl := hw.symm) | (go_at_call 32; refine (l1Size_any (gnum s k) _).mono ?_; rintro e w' ⟨rfl, hw⟩; obtain rfl := hw.symm))
          go_ret2
          exact ⟨fun hg => absurd (hgood.out.1 hg).2 HS.out, fun _ => rfl, rfl⟩
      · have hv' : Hid ((gnum s k : Int) < 0 ∨ (1152921504606846975 : Int) < gnum s k) := by show _ ∨ _; omega
        go_wp2_with (first | (go_at_call 30; refine (number_no (gnum s k) _ hv'.out).mono ?_; rintro e w' ⟨rfl, hw⟩; obtain rfl := hw.symm))
        go_ret2
        exact ⟨fun hg => absurd (hgood.out.1 hg).1 hv, fun _ => rfl, rfl⟩

/-- Too few bytes are left. -/
theorem l1Get_short (s : ByteArray) (k : Nat) (w : World) (hs : s.size ≤ maxLen) (hk : k < s.size) (hfit : ¬ gsz s k ≤ s.size - k) :
    Calls Tryd.prog 39 #[.string s, .int .i64 k] w fun e w' => e = .returned (.tuple #[.int .i64 0, .int .i64 (-1)]) ∧ w' = w := by
  unfold maxLen at hs
  have hpow : (2 : Int) ^ gcl s k = (gsz s k : Nat) := pow_class s k
  have hz8 : gsz s k ≤ 8 := by have := gsz_is s k; omega
  have hcl : gcl s k ≤ 3 := gcl_le s k
  have hc : (((s[k]'hk).toNat : Nat) : Int) / 64 = (gcl s k : Nat) := by unfold gcl; rw [sb_eq s k hk]; omega
  generalize gcl s k = c at *
  generalize gsz s k = z at *
  have hd1 : decide (s.size ≤ k) = false := by simp; omega
  have hd3 : decide ((s.size : Int) - (k : Int) < (z : Int)) = true := by simp; omega
  go_enter Tryd.func39, Tryd.ntmps39
  go_wp2
  go_ret2
  exact ⟨rfl, rfl⟩

/-- spec.l1Get, a number stands there. -/
theorem l1Get_yes (s : ByteArray) (k : Nat) (w : World) (hs : s.size ≤ maxLen) (h : GoodAt s k) :
    Calls Tryd.prog 39 #[.string s, .int .i64 k] w fun e w' => e = .returned (.tuple #[.int .i64 (gnum s k : Nat), .int .i64 (k + gsz s k : Nat)]) ∧ w' = w :=
  (l1Get_loop s k w hs h.1 h.2.1).mono fun _ _ ⟨a, _, c⟩ => ⟨a h, c⟩

/-- spec.l1Get, none stands there. -/
theorem l1Get_no (s : ByteArray) (k : Nat) (w : World) (hs : s.size ≤ maxLen) (hk : k < s.size) (h : ¬ GoodAt s k) :
    Calls Tryd.prog 39 #[.string s, .int .i64 k] w fun e w' => e = .returned (.tuple #[.int .i64 0, .int .i64 (-1)]) ∧ w' = w := by
  by_cases hf : gsz s k ≤ s.size - k
  · exact (l1Get_loop s k w hs hk hf).mono fun _ _ ⟨_, b, c⟩ => ⟨b h, c⟩
  · exact l1Get_short s k w hs hk hf
end Go.Proofs.YthpimklbdabdhaaDoor
