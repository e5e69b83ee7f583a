/-
  Numbers in so many bytes: spec.l1Wide answers with just these bytes; nothing old is written.
-/
import Derived.Test.YthpimklbdabdhaaDoorSize
import Derived.Test.YthpimklbdabdhaaDoorWideMath
import Derived.Deep.OwnRows
import Derived.Deep.RegionWith
import Derived.Laws.IdiomStrings
namespace Go.Proofs.YthpimklbdabdhaaDoor
open Go.RowKit

theorem info_u8 : (Tryd.prog.info? 5).map (fun i => (i.zero, i.size, i.bytes)) = some (some (.int .u8 0), 1, 1) := by kernel_rfl

theorem conv_wide (W : World) (B m size : Nat) (hs : size = 1 ∨ size = 2 ∨ size = 4 ∨ size = 8) (hm : m < 64 * 256 ^ (size - 1))
    (hrow : W.rowIs B 5 size (fun j => .int .u8 ((byteAt m size j + if j = 0 then markN size else 0 : Nat) : Int))) :
    (convert 22 9 (.slice (some ⟨B, 0, none⟩) size size)).run Tryd.prog W = .ok (.string ⟨(wideL m size).toArray⟩) W := by
  have h := run_convert_bytes_back (P := Tryd.prog) W 22 9 5 ⟨B, 0, none⟩ size (wideL m size) Tryd.underlying22 Tryd.underlying5 Tryd.underlying9 (fun j hj => by
    have hj' : j < size := by rw [length_wideL] at hj; exact hj
    rw [wideL_toNat m size j hs hm hj]
    have := hrow.cell hj'
    rcases j with _ | j <;> simpa [Addr.add] using this)
  rw [length_wideL] at h
  exact h

theorem mkI_le (k : Int) : 0 ≤ mkI k ∧ mkI k ≤ 192 := by
  unfold mkI
  repeat' split
  all_goals omega
theorem add_mark (m size : Nat) (hs : size = 1 ∨ size = 2 ∨ size = 4 ∨ size = 8) : ((byteAt m size 0 : Nat) : Int) + mkI size = ((byteAt m size 0 + markN size : Nat) : Int) := by
  generalize byteAt m size 0 = x
  rcases hs with rfl | rfl | rfl | rfl <;> simp [mkI, markN]

set_option maxHeartbeats 1000000 in
theorem l1Wide_any (m size : Nat) (w : World) (hs : size = 1 ∨ size = 2 ∨ size = 4 ∨ size = 8) (hm : m < 64 * 256 ^ (size - 1)) (_hmx : m ≤ 1152921504606846975) :
    Calls Tryd.prog 36 #[.int .i64 m, .int .i64 size] w fun e w' => e = .returned (.string ⟨(wideL m size).toArray⟩) ∧ Below w.heap.size w w' := by
  have hsz : size ≤ 8 := by omega
  have hs1 : 1 ≤ size := by omega
  obtain ⟨i0, hi, hz0, hz1, hz2⟩ := info_parts info_u8
  have Hm : Hid (m < 64 * 256 ^ (size - 1)) := hm
  have Hs : Hid (size = 1 ∨ size = 2 ∨ size = 4 ∨ size = 8) := hs
  clear hm hs
  go_enter Tryd.func36, Tryd.ntmps36
  go_wp2_with (at_make; refine wpList_make_row _ rfl _ _ 22 rfl 5 i0 (.int .u8 0) Tryd.underlying22 hi hz0 hz1 rfl .i64 .i64 size rfl rfl (by rw [hz2]; omega) (by omega) ?_)
  go_loopw [0, 6] (fun n i wr => ∃ k : Nat, k ≤ size ∧ i = .int .i64 ((k : Int) - 1) ∧ n = .int .i64 ((m / 256 ^ (size - k) : Nat) : Int) ∧
      wr.rowIs w.heap.size 5 size (fun j => .int .u8 ((if j < k then 0 else byteAt m size j : Nat) : Int)) ∧ Below w.heap.size w wr)
    (fun _ i _ => (intOf i + 1).toNat)
  case atStart =>
    refine ⟨size, Nat.le_refl _, ?_, ?_, ?_, ?_⟩
    · rfl
    · simp
    · refine (World.rowIs_made w (.int .u8 0) size 5).congr fun j hj => by simp [hj]
    · exact (Below.refl _ _).alloc (Nat.le_refl _) _
  case round =>
    obtain ⟨k, hk, rfl, rfl, hrow, hb⟩ := hrel
    rcases k with _ | k
    · go_wp2_with fail
      have hfz := hrow.frozen 0
      have hcl := hrow.cell (i := 0) (by omega)
      have hmk0 : 0 ≤ mkI size := (mkI_le size).1
      have hmk1 : mkI size ≤ 192 := (mkI_le size).2
      have hb0 : byteAt m size 0 < 64 := (byteAt_zero m size Hm.out).1
      go_region_with (go_at_call 50; refine (mark_any _ _ (by have := Hs.out; omega)).mono ?_; rintro e w' ⟨rfl, rfl⟩)
      all_goals
        have hconv := conv_wide (wr.setCell ⟨w.heap.size, 0, none⟩ (.int .u8 ((byteAt m size 0 : Nat) + mkI size))).drew w.heap.size m size Hs.out Hm.out (((hrow.set 0 _).drew).congr fun j hj => by
          by_cases hj0 : j = 0
          · subst hj0; rw [if_pos rfl, if_pos rfl]; exact congrArg (Value.int .u8) (add_mark m size Hs.out)
          · rw [if_neg hj0, if_neg hj0]; simp)
        have hwA : IntKind.u8.wrap (mkI size) = mkI size := by rw [IntKind.wrap_u8]; omega
        have hwB : IntKind.u8.wrap ((byteAt m size 0 : Nat) + mkI size) = (byteAt m size 0 : Nat) + mkI size := by rw [IntKind.wrap_u8]; omega
        simp only [hwA, hwB]
        go_wp2
        go_ret
        exact ⟨rfl, (hb.setCell (Nat.le_refl _) _).drew⟩
    · have hx : Hid (m / 256 ^ (size - (k + 1)) % 256 = byteAt m size k) := byteAt_last m size k (by omega)
      have hy : Hid (m / 256 ^ (size - (k + 1)) / 256 = m / 256 ^ (size - k)) := div_step m size k (by omega)
      have hle : m / 256 ^ (size - (k + 1)) ≤ m := Nat.div_le_self _ _
      generalize m / 256 ^ (size - (k + 1)) = x at hx hy hle ⊢
      have hfz := hrow.frozen k
      have hcl := hrow.cell (i := k) (by omega)
      rw [show ((k + 1 : Nat) : Int) - 1 = (k : Int) by omega]
      go_wp2
      go_roundw
      case rel =>
        refine ⟨k, by omega, rfl, ?_, ?_, ?_⟩
        · rw [← hy.out]; go_num
        · refine (hrow.set k _).congr fun j hj => ?_
          have hx' := hx.out
          by_cases hjk : j = k
          · subst hjk
            rw [if_pos rfl, if_neg (Nat.lt_irrefl j), ← hx']
            exact congrArg (Value.int .u8) (by omega)
          · rw [if_neg hjk]
            by_cases hlt : j < k
            · rw [if_pos hlt, if_pos (by omega)]
            · rw [if_neg hlt, if_neg (by omega)]
        · exact hb.setCell (Nat.le_refl _) _
      case measure => simp [intOf]
end Go.Proofs.YthpimklbdabdhaaDoor
