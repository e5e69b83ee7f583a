/-
  The cursor's spoilt: some text that is at most two bytes longer; it writes into the cursor alone.
-/
import Derived.Test.YthpimklbdabdhaaDoorDrawNums
namespace Go.Proofs.YthpimklbdabdhaaDoor
open Go.RowKit

theorem size_one (x : UInt8) : (ByteArray.mk #[x]).size = 1 := rfl
theorem conv_one (w : World) (x : UInt8) : (convert 22 9 (.slice (some ⟨w.heap.size, 0, none⟩) 1 1)).run Tryd.prog (w.alloc (.cells #[.int .u8 (x.toNat : Int)] 5)) = .ok (.string ⟨#[x]⟩) (w.alloc (.cells #[.int .u8 (x.toNat : Int)] 5)) := by
  have h := run_convert_bytes_back (P := Tryd.prog) (w.alloc (.cells #[.int .u8 (x.toNat : Int)] 5)) 22 9 5 ⟨w.heap.size, 0, none⟩ 1 [x] Tryd.underlying22 Tryd.underlying5 Tryd.underlying9 (fun j hj => by
    have hj0 : j = 0 := by simp at hj; omega
    subst hj0
    simp [Addr.add])
  exact h

set_option maxHeartbeats 4000000 in
theorem spoilt_any (B b N : Nat) (t u : ByteArray) (w : World) (h : Cur B w b N) (hN : N ≤ 1152921504606846000) (ht : t.size ≤ 100000) (hu : 0 < u.size) (hu2 : u.size ≤ 1000) :
    Calls Tryd.prog 48 #[.pointer (some ⟨b, 0, none⟩), .string t, .string u] w fun e w' => ∃ t' : ByteArray, t'.size ≤ t.size + 2 ∧ e = .returned (.string t') ∧ Cur B w' b (N + 20) ∧ w.grownBy w' (some b) := by
  have H := hid h
  clear h
  go_enter Tryd.func48, Tryd.ntmps48
  go_wp2_with fail
  refine (pick_any B b N 3 _ H.out (by omega) (by omega)).mono ?_
  rintro e w1 ⟨r, hr, rfl, c1, g1⟩
  have hr2 : r ≤ 2 := by omega
  have C1 := hid c1; have G1 := hid g1; clear c1 g1 hr
  go_wp2_with fail
  go_loopw [1, 7] (fun s i wr => ∃ (k : Nat) (t' : ByteArray), k ≤ 2 ∧ i = .int .i64 k ∧ s = .string t' ∧ t'.size + k ≤ t.size + 2 ∧ Cur B wr b (N + 2 + 6 * (2 - k)) ∧ w.grownBy wr (some b)) (fun _ i _ => (intOf i).toNat)
  case atStart => exact ⟨r, t, hr2, rfl, rfl, by omega, C1.out.mono (by omega), G1.out⟩
  case round =>
    obtain ⟨k, t', hk, rfl, rfl, hsz, hc, hg⟩ := hrel
    have CK := hid hc; have GK := hid hg
    clear hc hg
    by_cases hz : k = 0 ∨ t'.size = 0
    · rcases hz with rfl | hz
      · go_wp2
        go_ret
        exact ⟨t', by omega, rfl, CK.out.mono (by omega), GK.out⟩
      · have hz1 : ¬ (0 : Int) < (t'.size : Int) := by omega
        have hz2 : decide ((0 : Int) < (t'.size : Int)) = false := decide_eq_false hz1
        go_wp2
        all_goals (go_ret; exact ⟨t', by omega, rfl, CK.out.mono (by omega), GK.out⟩)
    · obtain ⟨k, rfl⟩ : ∃ j, k = j + 1 := ⟨k - 1, by omega⟩
      have hpos : 0 < t'.size := by omega
      have hd1 : decide ((0 : Int) < ((k + 1 : Nat) : Int)) = true := by simp
      have hd2 : decide ((0 : Int) < (t'.size : Int)) = true := by simp; omega
      clear hz
      go_wp2_with fail
      refine (pick_any B b _ t'.size _ CK.out (by omega) (by omega)).mono ?_
      rintro e w2 ⟨i, hi, rfl, c2, g2⟩
      have hi2 : i < t'.size := by omega
      have C2 := hid c2; have G2 := hid g2; clear c2 g2 hi
      go_wp2_with fail
      refine (pick_any B b _ u.size _ C2.out (by omega) (by omega)).mono ?_
      rintro e w3 ⟨q, hq, rfl, c3, g3⟩
      have hq2 : q < u.size := by omega
      have hcv := conv_one w3 (u[q]'hq2)
      have C3 := hid c3; have G3 := hid g3; clear c3 g3 hq
      go_wp2_with fail
      refine (pick_any B b _ 3 _ (C3.out.below ((Below.refl _ _).alloc (Nat.le_refl _) _)) (by omega) (by omega)).mono ?_
      rintro e w4 ⟨p, hp, rfl, c4, g4⟩
      have hp2 : p ≤ 2 := by omega
      have C4 := hid c4; have G4 : Hid (w.grownBy w4 (some b)) := only_trans (only_trans (only_trans (only_trans GK.out G2.out) G3.out) (World.grownBy_alloc _ _ _)) g4
      clear c4 g4 hp hcv
      rcases (by omega : p = 0 ∨ p = 1 ∨ p = 2) with rfl | rfl | rfl
      · go_wp2
        go_region
        all_goals go_wp2
        all_goals go_roundw
        case rel => exact ⟨k, _, by omega, by go_num, rfl, by simp [ByteArray.size_append, ByteArray.size_extract, size_one]; omega, C4.out.mono (by omega), only_drew G4.out⟩
        case measure => simp [intOf]
      · go_wp2
        go_region
        all_goals go_wp2
        all_goals go_roundw
        case rel => exact ⟨k, _, by omega, by go_num, rfl, by simp [ByteArray.size_append, ByteArray.size_extract, size_one]; omega, C4.out.mono (by omega), only_drew G4.out⟩
        case measure => simp [intOf]
      · go_wp2
        go_region
        all_goals go_wp2
        all_goals go_roundw
        case rel => exact ⟨k, _, by omega, by go_num, rfl, by simp [ByteArray.size_append, ByteArray.size_extract]; omega, C4.out.mono (by omega), only_drew G4.out⟩
        case measure => simp [intOf]
end Go.Proofs.YthpimklbdabdhaaDoor
