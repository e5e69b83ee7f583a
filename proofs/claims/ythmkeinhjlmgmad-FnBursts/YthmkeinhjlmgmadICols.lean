/-
  impl.byColumns: rows read column by column; nothing old is written.
-/
import Derived.Test.YthmkeinhjlmgmadPcRow
import Derived.Test.YthmkeinhjlmgmadOwnsSame
namespace Go.Proofs.Ythmkeinhjlmgmad
open Go.RowKit

theorem cols_take (s : ByteArray) (r c j k : Nat) (hj : j < r) (hk : k < c) : (colsL s r c).take (k * r + (j + 1)) = (colsL s r c).take (k * r + j) ++ [bt s (j * c + k)] := by
  have hlt : k * r + j < c * r := by
    have : (k + 1) * r ≤ c * r := Nat.mul_le_mul_right r hk
    rw [Nat.add_mul, Nat.one_mul] at this
    omega
  have hl : k * r + j < (colsL s r c).length := by rw [length_colsL]; exact hlt
  rw [← Nat.add_assoc, List.take_succ_eq_append_getElem hl]
  have e : (colsL s r c)[k * r + j] = (colsL s r c).getD (k * r + j) 0 := by simp [List.getD_eq_getElem?_getD, hl]
  rw [e, colsL_get s r c _ hlt]
  have hr : 0 < r := Nat.lt_of_le_of_lt (Nat.zero_le _) hj
  rw [show (k * r + j) % r = j by rw [Nat.mul_comm, Nat.mul_add_mod, Nat.mod_eq_of_lt hj], show (k * r + j) / r = k by rw [Nat.mul_comm, Nat.mul_add_div hr, Nat.div_eq_of_lt hj, Nat.add_zero]]

set_option maxHeartbeats 4000000 in
theorem icols_any (s : ByteArray) (r c : Nat) (w : World) (hs : s.size = c * r) (hn : s.size ≤ 120) (hr : r ≤ 120) (hc : c ≤ 120) :
    Calls Try.prog 125 #[.string s, .int .i64 (r : Nat), .int .i64 (c : Nat)] w fun e w' => e = .returned (.string ⟨(colsL s r c).toArray⟩) ∧ Below w.heap.size w w' := by
  obtain ⟨i0, hi, hz0, hz1, hz2⟩ := info_parts info_u8
  have HS := hid hs
  clear hs
  go_enter Try.func125, Try.ntmps125
  go_wp2_with (at_make; refine wpList_make_own _ rfl _ _ 22 rfl w.heap.size 5 i0 (.int .u8 0) 1 Try.underlying22 hi hz0 hz1 .i64 .i64 _ s.size rfl rfl rfl (by rw [hz2]; omega) (by unfold maxLen; omega) (Nat.le_refl _) ?_; intro w1 hown1 hgrow1)
  have O1 := hid hown1
  have B1 : Hid (Below w.heap.size w w1) := (Below.refl _ _).grown hgrow1 (Nat.le_refl _) (by intro k hk; cases hk)
  clear hown1 hgrow1
  go_loopw [7, 14] (fun l i wr => ∃ k : Nat, k ≤ c ∧ i = .int .i64 (k : Nat) ∧ wr.ownsRow w.heap.size 5 1 l (k * r + 0) (bflat ((colsL s r c).take (k * r + 0))) ∧ Below w.heap.size w wr) (fun _ i _ => c - (intOf i).toNat)
  case atStart => exact ⟨0, Nat.zero_le _, rfl, by simpa [bflat] using O1.out, B1.out⟩
  case round =>
    obtain ⟨k, hk, rfl, hown, hbel⟩ := hrel
    by_cases hlt : k < c
    · have hltd : (k : Int) < (c : Int) := by omega
      have HO := hid hown
      have HB := hid hbel
      clear hown hbel
      go_wp2_with fail
      go_loopw [7, 18] (fun l i wr => ∃ j : Nat, j ≤ r ∧ i = .int .i64 (j : Nat) ∧ wr.ownsRow w.heap.size 5 1 l (k * r + j) (bflat ((colsL s r c).take (k * r + j))) ∧ Below w.heap.size w wr) (fun _ i _ => r - (intOf i).toNat)
      case atStart => exact ⟨0, Nat.zero_le _, rfl, HO.out, HB.out⟩
      case round =>
        obtain ⟨j, hj, rfl, hown, hbel⟩ := hrel
        by_cases hjr : j < r
        · have HO2 := hid hown
          have HB2 := hid hbel
          have hsz := hbel.size
          clear hown hbel
          have hltj : (j : Int) < (r : Int) := by omega
          have HT := hid (cols_take s r c j k hjr hlt)
          have hp : j * c + k < s.size := by
            have h1 : (j + 1) * c ≤ r * c := Nat.mul_le_mul_right c hjr
            rw [Nat.add_mul, Nat.one_mul] at h1
            have := HS.out
            rw [Nat.mul_comm c r] at this
            omega
          obtain ⟨m, hm⟩ : ∃ m, j * c = m := ⟨_, rfl⟩
          rw [hm] at hp HT
          have e5 : (j : Int) * (c : Int) = (m : Nat) := by rw [← hm]; simp
          have e6 : IntKind.i64.wrap (m : Int) = (m : Nat) := by rw [IntKind.wrap_i64]; omega
          obtain ⟨p, hpp⟩ : ∃ p, m + k = p := ⟨_, rfl⟩
          rw [hpp] at hp HT
          have e7 : (m : Int) + (k : Int) = (p : Nat) := by rw [← hpp]; simp
          have e8 : IntKind.i64.wrap (p : Int) = (p : Nat) := by rw [IntKind.wrap_i64]; omega
          have hv : Hid ((s[p]'hp) = bt s p) := bt_eq s p hp
          have hle : k * r + (j + 1) ≤ 120 := by
            have h1 : (k + 1) * r ≤ c * r := Nat.mul_le_mul_right r hlt
            rw [Nat.add_mul, Nat.one_mul] at h1
            have := HS.out
            omega
          clear hm hpp
          obtain ⟨n, hnn⟩ : ∃ n, k * r + j = n := ⟨_, rfl⟩
          rw [← Nat.add_assoc] at HT hle
          rw [hnn] at HO2 HT hle
          have HN := hid hnn
          clear hnn
          go_wp2_with (at_builtin; refine wpList_append_own _ rfl _ _ 22 rfl w.heap.size 5 i0 (.int .u8 0) 1 1 Try.underlying22 hi hz0 hz1 hz2 rfl (by decide) _ _ _ rfl (HO2.out.alloc _) ⟨wr.heap.size, 0, none⟩ 1 1 [.int .u8 ((s[p]'hp).toNat : Nat)] rfl rfl (one_at_new rfl) (by simp [Value.oneCell']) (by unfold maxLen; omega) (by omega) (by simp; omega) ?_; intro v' w2 hown' hgrow _)
          go_roundw
          case rel =>
            refine ⟨j + 1, by omega, by go_num, ?_, ?_⟩
            · rw [← Nat.add_assoc, HN.out, HT.out, bflat_append]
              rw [hv.out] at hown'
              exact hown'
            · exact (HB2.out.alloc (by omega) _).grown hgrow (by simp; omega) (by
                intro g hg
                exact (HO2.out.lt g hg).1)
          case measure => simp [intOf]; omega
        · obtain rfl : j = r := by omega
          have hge : ¬ (j : Int) < (j : Int) := by omega
          go_wp2
          go_roundw
          case rel => exact ⟨k + 1, by omega, by go_num, by rw [Nat.add_zero, Nat.add_mul, Nat.one_mul]; exact hown, hbel⟩
          case measure => simp [intOf]; omega
    · obtain rfl : k = c := by omega
      rw [Nat.add_zero, List.take_of_length_le (by rw [length_colsL]; exact Nat.le_refl _)] at hown
      have hconv := conv_own wr w.heap.size _ _ _ hown
      have HB := hid hbel
      clear hown hbel
      go_wp2
      go_ret
      exact ⟨rfl, HB.out⟩
end Go.Proofs.Ythmkeinhjlmgmad
