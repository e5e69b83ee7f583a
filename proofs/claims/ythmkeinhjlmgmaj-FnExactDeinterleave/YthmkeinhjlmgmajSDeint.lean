/-
  spec.Deinterleave answers with the bytes written into rows and read the other way round, or with the zero answer; nothing old is written.
-/
import Derived.Test.YthmkeinhjlmgmajSDeep
import Derived.Test.YthmkeinhjlmgmajPcRow
namespace Go.Proofs.Ythmkeinhjlmgmaj
open Go.RowKit

set_option maxHeartbeats 2000000 in
theorem sdeint_any (s : ByteArray) (deep : Int) (w : World) (T : ByteArray) (t : Bool) (hT : dlvT s deep = T) (ht : deepB s.size deep = t) :
    Calls Try.prog 16 #[.string s, .int .i64 deep] w fun e w' => e = .returned (.tuple #[.string T, .bool t]) ∧ Below w.heap.size w w' := by
  have HT := hid hT
  have Ht := hid ht
  clear hT ht
  cases t
  · have HE : Hid (T = ByteArray.empty) := by show _ = _; rw [← HT.out]; unfold dlvT; rw [Ht.out]; rfl
    go_enter Try.func16, Try.ntmps16
    go_wp2_with fail
    refine (sdeep_eq _ _ false Ht.out _).mono ?_
    rintro e w' ⟨rfl, hw⟩; obtain rfl := hw.symm
    go_wp2
    go_ret2
    exact ⟨by rw [HE.out]; rfl, Below.refl _ _⟩
  obtain ⟨d, c, rfl, h1, h2, h3, h4, h5, h6⟩ := deepB_parts Ht.out
  have HE : Hid (T = ⟨(colsL s c d).toArray⟩) := by show _ = _; rw [← HT.out]; unfold dlvT; rw [Ht.out, if_pos rfl]; simp [h5]
  obtain ⟨i0, hi, hz0, hz1, hz2⟩ := info_parts info_u8
  clear HT
  have hne : ¬ (d : Int) = 0 := by omega
  have hc : c ≤ 120 := by
    have := Nat.le_mul_of_pos_right c h1
    omega
  have hq : ((s.size : Int).tdiv (d : Int)) = (c : Int) := by rw [Int.tdiv_eq_ediv_of_nonneg (by omega), ← h5]; rfl
  have hq2 : ((s.size : Int) / (d : Int)) = (c : Int) := by rw [← h5]; rfl
  have H4 := hid h4
  clear h5 h6 h4
  go_enter Try.func16, Try.ntmps16
  go_wp2_with fail
  refine (sdeep_eq _ _ true Ht.out _).mono ?_
  rintro e w' ⟨rfl, hw⟩; obtain rfl := hw.symm
  go_wp2_with (at_make; refine wpList_make_row _ rfl _ _ 43 rfl 5 i0 (.int .u8 0) Try.underlying43 hi hz0 hz1 rfl .i64 .i64 s.size rfl rfl (by rw [hz2]; omega) (by omega) ?_)
  go_loopw [23] (fun i wr => ∃ k : Nat, k ≤ s.size ∧ i = .int .i64 (k : Nat) ∧ wr.rowIs w.heap.size 5 s.size (fun j => .int .u8 ((if j % c * d + j / c < k then bt s (j % c * d + j / c) else 0 : UInt8).toNat : Nat)) ∧ Below w.heap.size w wr) (fun i _ => s.size - (intOf i).toNat)
  case atStart =>
    refine ⟨0, Nat.zero_le _, rfl, ?_, ?_⟩
    · exact (World.rowIs_made w (.int .u8 0) s.size 5).congr fun j hj => by simp
    · exact (Below.refl _ _).alloc (Nat.le_refl _) _
  case round =>
    obtain ⟨k, hk, rfl, hrow, hb⟩ := hrel
    by_cases hlt : k < s.size
    · have HF : Hid (k % d * c + k / d < s.size) := by show _ < _; rw [H4.out]; exact fwd_lt k d c (by rw [← H4.out]; exact hlt)
      obtain ⟨kd, hkd⟩ : ∃ kd, k % d = kd := ⟨_, rfl⟩
      obtain ⟨kq, hkq⟩ : ∃ kq, k / d = kq := ⟨_, rfl⟩
      have e1 : (k : Int).tmod (d : Int) = (kd : Nat) := by rw [Int.tmod_eq_emod_of_nonneg (by omega), ← hkd]; rfl
      have e2 : (k : Int) % (d : Int) = (kd : Nat) := by rw [← hkd]; rfl
      have e3 : (k : Int).tdiv (d : Int) = (kq : Nat) := by rw [Int.tdiv_eq_ediv_of_nonneg (by omega), ← hkq]; rfl
      have e4 : (k : Int) / (d : Int) = (kq : Nat) := by rw [← hkq]; rfl
      obtain ⟨m, hm⟩ : ∃ m, kd * c = m := ⟨_, rfl⟩
      have hkd2 : kd < d := by rw [← hkd]; exact Nat.mod_lt _ h1
      have hm2 : m ≤ 12 * 120 := by rw [← hm]; exact Nat.mul_le_mul (by omega) hc
      have hkq2 : kq ≤ k := by rw [← hkq]; exact Nat.div_le_self _ _
      have e5 : (kd : Int) * (c : Int) = (m : Nat) := by rw [← hm]; simp
      have e6 : IntKind.i64.wrap (m : Int) = (m : Nat) := by rw [IntKind.wrap_i64]; omega
      obtain ⟨p, hp⟩ : ∃ p, m + kq = p := ⟨_, rfl⟩
      have e7 : (m : Int) + (kq : Int) = (p : Nat) := by rw [← hp]; simp
      have e8 : IntKind.i64.wrap (p : Int) = (p : Nat) := by rw [IntKind.wrap_i64]; omega
      have hps : p < s.size := by have := HF.out; rw [hkd, hkq, hm, hp] at this; exact this
      have HP : Hid (k % d * c + k / d = p) := by show _ = _; rw [hkd, hkq, hm, hp]
      have HR := hid hrow
      have HB := hid hb
      have hfz := hrow.frozen p
      have hcl := hrow.cell (i := p) hps
      have hv : Hid ((s[k]'(hlt)) = bt s k) := bt_eq s k hlt
      have HD := hid (And.intro hkd (And.intro hkq (And.intro hm hp)))
      clear hrow hb hkd hkq hm hp HF
      generalize hy : ((if p % c * d + p / c < k then bt s (p % c * d + p / c) else 0 : UInt8).toNat : Nat) = y at hcl
      clear hy
      go_wp2_with fail
      go_region
      all_goals go_wp2
      all_goals go_roundw
      case rel =>
        refine ⟨k + 1, by omega, by go_num, ?_, (HB.out.setCell (Nat.le_refl _) _).drew⟩
        refine ((HR.out.set p _).drew).congr fun j hj => ?_
        rw [hv.out]
        have hn : k < c * d := by rw [← H4.out]; exact hlt
        have hback := fwd_back k d c hn
        rw [HP.out] at hback
        by_cases e : j = p
        · subst e
          rw [if_pos rfl, hback, if_pos (by omega)]
        · rw [if_neg e]
          have hne2 : j % c * d + j / c ≠ k := by
            intro h
            apply e
            have hj2 : j < d * c := by rw [Nat.mul_comm, ← H4.out]; exact hj
            have := fwd_back j c d hj2
            rw [h, HP.out] at this
            exact this.symm
          by_cases h : j % c * d + j / c < k
          · rw [if_pos h, if_pos (by omega)]
          · rw [if_neg h, if_neg (by omega)]
      case measure => simp [intOf]; omega
    · obtain rfl : k = s.size := by omega
      have hconv := conv_row wr w.heap.size s.size (colsL s c d) (fun j hj => by
        have hj' : j < s.size := by rw [length_colsL] at hj; rw [H4.out]; rw [Nat.mul_comm]; exact hj
        rw [hrow.cell hj']
        have hj2 : j < d * c := by rw [Nat.mul_comm, ← H4.out]; exact hj'
        have hlt2 : j % c * d + j / c < s.size := by rw [H4.out, Nat.mul_comm c d]; exact fwd_lt j c d hj2
        rw [if_pos hlt2, colsL_get s c d j hj2])
      rw [show (colsL s c d).length = s.size by rw [length_colsL, H4.out]; rw [Nat.mul_comm]] at hconv
      have HB := hid hb
      clear hrow hb
      go_wp2
      go_ret2
      exact ⟨by rw [HE.out]; rfl, HB.out⟩
end Go.Proofs.Ythmkeinhjlmgmaj
