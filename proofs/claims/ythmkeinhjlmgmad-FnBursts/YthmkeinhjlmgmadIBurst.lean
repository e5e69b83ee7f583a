/-
  impl.BurstOf: the bytes with some of them turned, or the zero answer; nothing old is written.
-/
import Derived.Test.YthmkeinhjlmgmadBuRow
import Derived.Test.YthmkeinhjlmgmadIWithin
import Derived.Laws.BitsAllLaws
namespace Go.Proofs.Ythmkeinhjlmgmad
open Go.RowKit

set_option maxRecDepth 100000 in
set_option maxHeartbeats 4000000 in
theorem iburst_any (s : ByteArray) (frm long : Int) (T : ByteArray) (t : Bool) (hT : buT s frm long = T) (ht : buB s frm long = t) (hs : s.size ≤ 120) (w1 : (Lit.int .i64 frm).wf = true) (w : World) :
    Calls Try.prog 59 #[.string s, .int .i64 frm, .int .i64 long] w fun e w' => e = .returned (.tuple #[.string T, .bool t]) ∧ Below w.heap.size w w' := by
  have HT := hid hT
  have Ht := hid ht
  clear hT ht
  have dS : decide ((s.size : Int) > 120) = false := by simp; omega
  cases t
  · have HE : Hid (T = ByteArray.empty) := by show _ = _; rw [← HT.out]; unfold buT; rw [Ht.out]; rfl
    have H2 : Hid (withB s.size frm long = false) := Ht.out
    go_enter Try.func59, Try.ntmps59
    go_wp2_with fail
    refine (iwithin_eq s.size frm long false (by omega) w1 H2.out _).mono ?_
    rintro e w' ⟨rfl, hw⟩; obtain rfl := hw.symm
    go_wp2
    go_ret2
    exact ⟨by rw [HE.out]; rfl, Below.refl _ _⟩
  obtain ⟨f, l, rfl, rfl, hfl⟩ : ∃ f l : Nat, frm = f ∧ long = l ∧ f + l ≤ s.size := by
    have := Ht.out
    simp [buB, withB] at this
    exact ⟨frm.toNat, long.toNat, by omega, by omega, by omega⟩
  have HE : Hid (T = ⟨(buL s f l).toArray⟩) := by show _ = _; rw [← HT.out]; unfold buT; rw [Ht.out, if_pos rfl]; simp
  clear HT
  have hfl1 : (f : Int) + (l : Int) = ((f + l : Nat) : Int) := by simp
  have hfw : IntKind.i64.wrap ((f + l : Nat) : Int) = ((f + l : Nat) : Int) := by rw [IntKind.wrap_i64]; omega
  obtain ⟨m, hm⟩ : ∃ m, f + l = m := ⟨_, rfl⟩
  rw [hm] at hfl1 hfw hfl
  have HMm := hid hm
  clear hm
  obtain ⟨cap, W, hcv, hrow, hbel⟩ := bytes_new w s
  have HRW := hid hrow
  have HBW := hid hbel
  clear hrow hbel
  have H2 : Hid (withB s.size f l = true) := Ht.out
  go_enter Try.func59, Try.ntmps59
  go_wp2_with fail
  refine (iwithin_eq s.size f l true (by omega) w1 H2.out _).mono ?_
  rintro e w' ⟨rfl, hw⟩; obtain rfl := hw.symm
  go_wp2
  clear hcv
  go_loopw [9] (fun i wr => ∃ k : Nat, k ≤ l ∧ i = .int .i64 ((f + k : Nat) : Int) ∧ BuRow wr w.heap.size s.size (fun j => if f ≤ j ∧ j < f + k then bt s j ^^^ 255 else bt s j) ∧ Below w.heap.size w wr) (fun i _ => f + l - (intOf i).toNat)
  case atStart => exact ⟨0, Nat.zero_le _, rfl, HRW.out.congr fun j _ => by rw [if_neg (by omega)], HBW.out⟩
  case round =>
    obtain ⟨k, hk, rfl, hrow, hbel⟩ := hrel
    have HR := hid hrow
    have HB := hid hbel
    clear hrow hbel
    by_cases hlt : k < l
    · obtain ⟨p, hp⟩ : ∃ p, f + k = p := ⟨_, rfl⟩
      rw [hp] at HR ⊢
      have hpm : (p : Int) < (m : Int) := by have := HMm.out; omega
      have hps : p < s.size := by have := HMm.out; omega
      have hpi : (p : Int) < (s.size : Int) := by omega
      obtain ⟨c0, f0⟩ := HR.out p hps
      dsimp only at c0
      rw [if_neg (by omega)] at c0
      have HS := hid (HR.out.set p (bt s p ^^^ 255) hps)
      obtain ⟨y, hy⟩ : ∃ y, bt s p = y := ⟨_, rfl⟩
      rw [hy] at c0 HS
      have hx : bits .xor .u8 (y.toNat : Int) 255 = ((y ^^^ 255).toNat : Nat) := by
        have := u8_xor_nat y.toNat 255 (UInt8.toNat_lt _) (by decide)
        rw [UInt8.toNat_xor]
        exact this
      obtain ⟨q, hq⟩ : ∃ q : Nat, (y ^^^ 255).toNat = q := ⟨_, rfl⟩
      rw [hq] at hx HS
      have HP := hid hp
      have HY := hid hy
      clear hp hy hq
      go_wp2
      go_roundw
      case rel =>
        refine ⟨k + 1, by omega, by have := HP.out; go_num, HS.out.congr fun j _ => ?_, HB.out.setCell (Nat.le_refl _) _⟩
        have hpp := HP.out
        by_cases e : j = p
        · rw [if_pos e, if_pos (by omega), e, HY.out]
        · rw [if_neg e]
          by_cases h : f ≤ j ∧ j < p
          · rw [if_pos h, if_pos (by omega)]
          · rw [if_neg h, if_neg (by omega)]
      case measure => simp [intOf]; have := HP.out; omega
    · obtain rfl : k = l := by omega
      rw [HMm.out] at HR ⊢
      have hconv := fun cap => conv_row wr w.heap.size cap (buL s f k) (fun j hj => by
        have hj' : j < s.size := by rw [length_buL] at hj; exact hj
        have h := (HR.out j hj').1
        dsimp only at h
        rw [h, buL_get s f k j hj', HMm.out])
      rw [length_buL] at hconv
      clear HR
      go_wp2
      go_ret2
      exact ⟨by rw [HE.out]; rfl, HB.out⟩
end Go.Proofs.Ythmkeinhjlmgmad
