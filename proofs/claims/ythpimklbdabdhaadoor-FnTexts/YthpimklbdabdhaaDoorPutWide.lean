/-
  impl.PutWide answers with just the bytes of the number in that size, or with the zero answer; nothing old is written.
-/
import Derived.Test.YthpimklbdabdhaaDoorWide
import Derived.Test.YthpimklbdabdhaaDoorBits
namespace Go.Proofs.YthpimklbdabdhaaDoor
open Go.RowKit

theorem fits_of (m size : Nat) (hs : size = 1 ∨ size = 2 ∨ size = 4 ∨ size = 8) (hmx : m ≤ 1152921504606846975) (h : szI m ≤ size) : m < 64 * 256 ^ (size - 1) := by
  unfold szI at h
  rcases hs with rfl | rfl | rfl | rfl <;> simp at h ⊢ <;> (repeat' split at h) <;> omega

theorem clI_le (k : Int) : 0 ≤ clI k ∧ clI k ≤ 3 := by
  unfold clI
  repeat' split
  all_goals omega

theorem class_mark (size : Nat) (hs : size = 1 ∨ size = 2 ∨ size = 4 ∨ size = 8) : (clI size).toNat * 64 = markN size := by
  rcases hs with rfl | rfl | rfl | rfl <;> simp [clI, markN]

set_option maxHeartbeats 1000000 in
theorem putWide_yes (m size : Nat) (w : World) (hT : Tab w) (hs : size = 1 ∨ size = 2 ∨ size = 4 ∨ size = 8) (hmx : m ≤ 1152921504606846975) (hle : szI m ≤ size) :
    Calls Tryd.prog 12 #[.int .i64 m, .int .i64 size] w fun e w' => e = .returned (.tuple #[.string ⟨(wideL m size).toArray⟩, .bool true]) ∧ Below w.heap.size w w' := by
  have Hm : Hid (m < 64 * 256 ^ (size - 1)) := fits_of m size hs hmx hle
  have hsz : size ≤ 8 := by omega
  have hs1 : 1 ≤ size := by omega
  obtain ⟨i0, hi, hz0, hz1, hz2⟩ := info_parts info_u8
  have Hs : Hid (size = 1 ∨ size = 2 ∨ size = 4 ∨ size = 8) := hs
  have HT : Hid (Tab w) := hT
  have hlt : ¬ (size : Int) < szI m := by omega
  have hc0 : 0 ≤ clI size := (clI_le size).1
  have hc1 : clI size ≤ 3 := (clI_le size).2
  clear hs hT hle
  go_enter Tryd.func12, Tryd.ntmps12
  go_wp2_with (first
    | (go_at_call 8; refine (size_yes m _ HT.out (by omega) (by omega)).mono ?_; rintro e w' ⟨rfl, hw⟩; obtain rfl := hw.symm)
    | (go_at_call 35; refine (class_yes size _ HT.out (by have := Hs.out; omega)).mono ?_; rintro e w' ⟨rfl, hw⟩; obtain rfl := hw.symm)
    | (at_make; refine wpList_make_row _ rfl _ _ 22 rfl 5 i0 (.int .u8 0) Tryd.underlying22 hi hz0 hz1 rfl .i64 .i64 size rfl rfl (by rw [hz2]; omega) (by omega) ?_))
  go_loopw [11, 12] (fun n i wr => ∃ k : Nat, k ≤ size ∧ i = .int .i64 ((k : Int) - 1) ∧ n = .int .i64 ((m / 256 ^ (size - k) : Nat) : Int) ∧
      wr.rowIs w.heap.size 5 size (fun j => .int .u8 ((if j < k then 0 else byteAt m size j : Nat) : Int)) ∧ Below w.heap.size w wr)
    (fun _ i _ => (intOf i + 1).toNat)
  case atStart =>
    refine ⟨size, Nat.le_refl _, ?_, ?_, ?_, ?_⟩
    · rfl
    · simp
    · refine (World.rowIs_made w (.int .u8 0) size 5).congr fun j hj => by simp [hj]
    · exact (Below.refl _ _).alloc (Nat.le_refl _) _
  case round =>
    obtain ⟨k, hk, rfl, rfl, hrow, hb⟩ := hrel
    rcases k with _ | k
    · have hfz := hrow.frozen 0
      have hcl := hrow.cell (i := 0) (by omega)
      have hb0 : byteAt m size 0 < 64 := (byteAt_zero m size Hm.out).1
      have hcc : ((clI size).toNat : Int) = clI size := by omega
      have hor : bits .or .u8 ((byteAt m size 0 : Nat) : Int) (clI size * 64) = ((byteAt m size 0 + markN size : Nat) : Int) := by
        have h := or_class (byteAt m size 0) (clI size).toNat hb0 (by omega)
        rw [hcc, class_mark size Hs.out] at h
        exact h
      have Hor := hor; clear hor hcc
      have hconv := conv_wide (wr.setCell ⟨w.heap.size, 0, none⟩ (.int .u8 (bits .or .u8 ((byteAt m size 0 : Nat) : Int) (clI size * 64)))) w.heap.size m size Hs.out Hm.out ((hrow.set 0 _).congr fun j hj => by
          by_cases hj0 : j = 0
          · subst hj0; rw [if_pos rfl, if_pos rfl, Hor]
          · rw [if_neg hj0, if_neg hj0]; simp)
      clear Hor
      go_wp2
      go_ret2
      exact ⟨rfl, hb.setCell (Nat.le_refl _) _⟩
    · have hx : Hid (m / 256 ^ (size - (k + 1)) % 256 = byteAt m size k) := byteAt_last m size k (by omega)
      have hy : Hid (m / 256 ^ (size - (k + 1)) / 256 = m / 256 ^ (size - k)) := div_step m size k (by omega)
      have hle : m / 256 ^ (size - (k + 1)) ≤ m := Nat.div_le_self _ _
      generalize m / 256 ^ (size - (k + 1)) = x at hx hy hle ⊢
      have hfz := hrow.frozen k
      have hcl := hrow.cell (i := k) (by omega)
      rw [show ((k + 1 : Nat) : Int) - 1 = (k : Int) by omega]
      go_wp2
      go_roundw
      case rel =>
        refine ⟨k, by omega, rfl, ?_, ?_, ?_⟩
        · rw [← hy.out]; go_num
        · refine (hrow.set k _).congr fun j hj => ?_
          have hx' := hx.out
          by_cases hjk : j = k
          · subst hjk
            rw [if_pos rfl, if_neg (Nat.lt_irrefl j), ← hx']
            refine congrArg (Value.int .u8) ?_
            rw [and_255 x (by omega)]; omega
          · rw [if_neg hjk]
            by_cases hlt : j < k
            · rw [if_pos hlt, if_pos (by omega)]
            · rw [if_neg hlt, if_neg (by omega)]
        · exact hb.setCell (Nat.le_refl _) _
      case measure => simp [intOf]
end Go.Proofs.YthpimklbdabdhaaDoor
