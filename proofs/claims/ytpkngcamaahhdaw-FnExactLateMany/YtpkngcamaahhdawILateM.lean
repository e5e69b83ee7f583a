/-
  impl.LateMany: how many are done behind their end. Nothing old is written.
-/
import Derived.Test.YtpkngcamaahhdawITask
import Derived.Test.YtpkngcamaahhdawIOrd
import Derived.Test.YtpkngcamaahhdawILats
namespace Go.Proofs.Ytpkngcamaahhdaw
open Go.RowKit

set_option maxHeartbeats 2000000 in
theorem ilatem_no (v vo : Value) (xs : List TkEl) (ys : List Int) (w : World) (hr : TkReads w v xs) (hs : KReads w vo ys) (hn : (goodT xs && ordB xs.length ys) = false) :
    Calls Try.prog 32 #[v, vo] w fun e w' => e = .returned (.tuple #[.int .i64 0, .bool false]) ∧ Below w.heap.size w w' := by
  have HR := hid hr
  have HS := hid hs
  have HN := hid hn
  obtain ⟨a, cap, rfl, _, _⟩ := hr
  clear hs hn
  obtain ⟨b, hb⟩ : ∃ b, goodT xs = b := ⟨_, rfl⟩
  have HG := hid hb
  cases b
  · clear hb
    go_enter Try.func32, Try.ntmps32
    go_wp2_with fail
    refine (igoodTasks_eq _ xs false HG.out _ HR.out).mono ?_
    rintro e w1 ⟨rfl, b1⟩
    have B1 := hid b1
    clear b1
    go_wp2
    go_ret2
    exact ⟨rfl, B1.out⟩
  · have hl := goodT_len hb
    have HO : Hid (ordB xs.length ys = false) := by have := HN.out; rw [hb, Bool.true_and] at this; exact this
    clear hb
    go_enter Try.func32, Try.ntmps32
    go_wp2_with fail
    refine (igoodTasks_eq _ xs true HG.out _ HR.out).mono ?_
    rintro e w1 ⟨rfl, b1⟩
    have B1 := hid b1
    clear b1
    go_wp2_with fail
    refine (igoodOrder_eq _ ys xs.length false HO.out (by omega) _ (HS.out.below B1.out)).mono ?_
    rintro e w2 ⟨rfl, b2⟩
    have B2 : Hid (Below w.heap.size w w2) := B1.out.trans (b2.mono B1.out.size)
    clear b2
    go_wp2
    go_ret2
    exact ⟨rfl, B2.out⟩
set_option maxHeartbeats 4000000 in
theorem ilatem_yes (v vo : Value) (xs : List TkEl) (os : List Nat) (w : World) (hr : TkReads w v xs) (hs : KReads w vo (ofN os)) (hg : goodT xs = true) (ho : os.Perm (List.range xs.length)) :
    Calls Try.prog 32 #[v, vo] w fun e w' => e = .returned (.tuple #[.int .i64 (lateT (needT xs) (endT xs) xs.length os : Nat), .bool true]) ∧ Below w.heap.size w w' := by
  have HR := hid hr
  have HS := hid hs
  have HG := hid hg
  have HP := hid ho
  have hl := goodT_len hg
  have HO : Hid (ordB xs.length (ofN os) = true) := ordB_map ho
  obtain ⟨a, cap, rfl, _, _⟩ := hr
  clear hs hg ho
  go_enter Try.func32, Try.ntmps32
  go_wp2_with fail
  refine (igoodTasks_eq _ xs true HG.out _ HR.out).mono ?_
  rintro e w1 ⟨rfl, b1⟩
  have B1 := hid b1
  clear b1
  go_wp2_with fail
  refine (igoodOrder_eq _ (ofN os) xs.length true HO.out (by omega) _ (HS.out.below B1.out)).mono ?_
  rintro e w2 ⟨rfl, b2⟩
  have B2 : Hid (Below w.heap.size w w2) := B1.out.trans (b2.mono B1.out.size)
  clear b2
  go_wp2_with fail
  refine (ilats_any _ vo xs os _ (HR.out.below B2.out) (HS.out.below B2.out) HG.out HP.out).mono ?_
  rintro e w3 ⟨rfl, hrow, b3⟩
  have O3 := hid hrow
  have B3 : Hid (Below w.heap.size w w3) := B2.out.trans (b3.mono B2.out.size)
  clear hrow b3
  go_wp2
  go_loopw [6, 23] (fun m i wr => ∃ k : Nat, k ≤ xs.length ∧ i = .int .i64 k ∧ m = .int .i64 (lateTU xs os k : Nat) ∧ w3 = wr) (fun _ i _ => xs.length - (intOf i).toNat)
  case atStart => exact ⟨0, by omega, rfl, rfl, rfl⟩
  case round =>
    obtain ⟨k, hk, rfl, rfl, rfl⟩ := hrel
    have hle := lateTU_le xs os k
    by_cases hlt : k < xs.length
    · obtain ⟨p, hp⟩ : ∃ p, p = latV xs os k := ⟨_, rfl⟩
      have c0 : w3.cell? ⟨w2.heap.size, k, none⟩ = some (.int .i64 p) := by have := O3.out.cell hlt; rw [latL_get hlt, ← hp] at this; exact this
      have HU := hid (lateTU_succ xs os k)
      have HV : Hid (p = doneAt (needT xs) 0 os k - endT xs k) := hp
      have n0 : (0 : Int) ≤ (k : Int) := by omega
      have n1 : (k : Int) < (xs.length : Int) := by omega
      clear hp
      by_cases h1 : 0 < p
      · have d1 : decide (0 < p) = true := by simpa using h1
        have HW : Hid (lateTU xs os (k + 1) = lateTU xs os k + 1) := by show _ = _; rw [HU.out, if_pos (by have := HV.out; omega)]
        generalize lateTU xs os k = m at hle HW ⊢
        go_wp2
        go_roundw
        case rel => exact ⟨k + 1, by omega, by go_num, by rw [HW.out]; go_num, by first | rfl | trivial⟩
        case measure => simp [intOf]; omega
      · have d1 : decide (0 < p) = false := by simpa using h1
        have HW : Hid (lateTU xs os (k + 1) = lateTU xs os k) := by show _ = _; rw [HU.out, if_neg (by have := HV.out; omega), Nat.add_zero]
        generalize lateTU xs os k = m at hle HW ⊢
        go_wp2
        go_roundw
        case rel => exact ⟨k + 1, by omega, by go_num, by rw [HW.out], by first | rfl | trivial⟩
        case measure => simp [intOf]; omega
    · obtain rfl : k = xs.length := by omega
      obtain ⟨m, hm⟩ : ∃ m, m = lateTU xs os xs.length := ⟨_, rfl⟩
      rw [← hm]
      have HM : Hid (m = lateT (needT xs) (endT xs) xs.length os) := hm
      clear hm hle
      go_wp2
      go_ret2
      exact ⟨by rw [← HM.out]; rfl, B3.out⟩
end Go.Proofs.Ytpkngcamaahhdaw
