/-
  spec.l5Late, spec.LateMany: how many are done behind their end. Nothing old is written.
-/
import Derived.Test.YtpkngcamaahhdabSDone
import Derived.Test.YtpkngcamaahhdabSOrd
import Derived.Test.YtpkngcamaahhdabSIn
namespace Go.Proofs.Ytpkngcamaahhdab
open Go.RowKit

theorem length_doneL (xs : List TkEl) (os : List Nat) : (doneL xs os).length = xs.length := by simp [doneL]
theorem doneL_get {xs : List TkEl} {os : List Nat} {k : Nat} (h : k < xs.length) : (doneL xs os).getD k 0 = doneAt (needT xs) 0 os k := by simp [doneL, List.getD_eq_getElem?_getD, h]
set_option maxHeartbeats 4000000 in
theorem slate5_any (v vo : Value) (xs : List TkEl) (os : List Nat) (w : World) (hr : TkReads w v xs) (hs : KReads w vo (ofN os)) (hg : goodT xs = true) (ho : os.Perm (List.range xs.length)) :
    Calls Try.prog 52 #[v, vo] w fun e w' => e = .returned (.int .i64 (lateTU xs os xs.length : Nat)) ∧ Below w.heap.size w w' := by
  have HR := hid hr
  have HS := hid hs
  have HG := hid hg
  have HP := hid ho
  have hlen := goodT_len hg
  obtain ⟨a, cap, rfl, _, _⟩ := hr
  clear hs hg ho
  go_enter Try.func52, Try.ntmps52
  go_wp2_with fail
  refine (sdone_any _ _ xs os _ HR.out HS.out HG.out HP.out).mono ?_
  rintro e w1 ⟨u, rfl, hown, hb1⟩
  have HO := hid hown.reads
  have B1 := hid hb1
  have HLD := hid (length_doneL xs os)
  obtain ⟨a1, cap1, e1, _, _⟩ := hown.reads
  rw [HLD.out] at e1
  subst e1
  clear hown hb1
  go_wp2
  go_loopw [5, 12] (fun n i wr => ∃ k : Nat, k ≤ xs.length ∧ i = .int .i64 k ∧ n = .int .i64 (lateTU xs os k : Nat) ∧ w1 = wr) (fun _ i _ => xs.length - (intOf i).toNat)
  case atStart => exact ⟨0, Nat.zero_le _, rfl, rfl, rfl⟩
  case round =>
    obtain ⟨k, hk, rfl, rfl, rfl⟩ := hrel
    by_cases hlt : k < xs.length
    · obtain ⟨g1, o1, capx, e, hd⟩ := HO.out.cells k (by rw [HLD.out]; exact hlt)
      rw [HLD.out] at e
      cases e
      obtain ⟨g, o, cap', e, hc⟩ := (HR.out.below B1.out).cells k hlt
      cases e
      have d0 : w1.cell? ⟨g1, o1 + k, none⟩ = some (.int .i64 (doneAt (needT xs) 0 os k)) := by
        have := hd k (by rw [HLD.out]; exact hlt)
        rw [doneL_get hlt] at this
        exact this
      obtain ⟨c0, c1⟩ := hc k hlt
      have c1' : w1.cell? ⟨g, o + k * 2 + 1, none⟩ = some (.int .i64 (endT xs k)) := c1
      have HN := hid (lateTU_succ xs os k)
      have hle := lateTU_le xs os k
      obtain ⟨q, hq⟩ : ∃ q, q = endT xs k := ⟨_, rfl⟩
      obtain ⟨t, ht⟩ : ∃ t, t = doneAt (needT xs) 0 os k := ⟨_, rfl⟩
      obtain ⟨n, hn⟩ : ∃ n, n = lateTU xs os k := ⟨_, rfl⟩
      rw [← hq] at c1' HN
      rw [← ht] at d0 HN
      rw [← hn] at HN hle ⊢
      have n0 : (0 : Int) ≤ (k : Int) := by omega
      have n1 : (k : Int) < (xs.length : Int) := by omega
      clear hd hc c0 c1 hq ht hn
      by_cases h1 : q < t
      · have HN' : Hid (lateTU xs os (k + 1) = n + 1) := by show _ = _; rw [HN.out, if_pos h1]
        have hd : decide (t > q) = true := by simpa using h1
        have hw1 : IntKind.i64.wrap ((n : Int) + 1) = ((n + 1 : Nat) : Int) := by rw [IntKind.wrap_i64]; omega
        clear HN
        go_wp2_with fail
        refine (l1Bit_eq true 1 rfl _).mono ?_
        rintro e w' ⟨rfl, hw⟩; obtain rfl := hw.symm
        go_wp2
        go_roundw
        case rel => exact ⟨k + 1, by omega, by go_num, by rw [HN'.out]; simp, by first | rfl | trivial⟩
        case measure => simp [intOf]; omega
      · have HN' : Hid (lateTU xs os (k + 1) = n) := by show _ = _; rw [HN.out, if_neg h1]; rfl
        have hd : decide (t > q) = false := by simpa using h1
        have hw1 : IntKind.i64.wrap ((n : Int) + 0) = ((n : Nat) : Int) := by rw [IntKind.wrap_i64]; omega
        clear HN
        go_wp2_with fail
        refine (l1Bit_eq false 0 rfl _).mono ?_
        rintro e w' ⟨rfl, hw⟩; obtain rfl := hw.symm
        go_wp2
        go_roundw
        case rel => exact ⟨k + 1, by omega, by go_num, by rw [HN'.out]; first | done | simp, by first | rfl | trivial⟩
        case measure => simp [intOf]; omega
    · obtain rfl : k = xs.length := by omega
      go_wp2
      go_ret
      exact ⟨rfl, B1.out⟩
set_option maxHeartbeats 1000000 in
theorem slatem_no (v vo : Value) (xs : List TkEl) (ys : List Int) (w : World) (hr : TkReads w v xs) (hs : KReads w vo ys) (hn : (goodT xs && ordB xs.length ys) = false) :
    Calls Try.prog 19 #[v, vo] w fun e w' => e = .returned (.tuple #[.int .i64 0, .bool false]) ∧ Below w.heap.size w w' := by
  have HR := hid hr
  have HS := hid hs
  obtain ⟨a, cap, rfl, _, _⟩ := hr
  obtain ⟨a2, cap2, rfl, _, _⟩ := hs
  go_enter Try.func19, Try.ntmps19
  go_wp2_with fail
  refine (l5Both_eq _ _ xs ys false hn _ HR.out HS.out).mono ?_
  rintro e w1 ⟨rfl, b1⟩
  have B1 := hid b1
  clear b1
  go_wp2
  go_ret2
  exact ⟨rfl, B1.out⟩
set_option maxHeartbeats 1000000 in
theorem slatem_yes (v vo : Value) (xs : List TkEl) (os : List Nat) (w : World) (hr : TkReads w v xs) (hs : KReads w vo (ofN os)) (hg : goodT xs = true) (ho : os.Perm (List.range xs.length)) :
    Calls Try.prog 19 #[v, vo] w fun e w' => e = .returned (.tuple #[.int .i64 (lateTU xs os xs.length : Nat), .bool true]) ∧ Below w.heap.size w w' := by
  have HR := hid hr
  have HS := hid hs
  have HG := hid hg
  have HP := hid ho
  have hn : (goodT xs && ordB xs.length (ofN os)) = true := by rw [hg, Bool.true_and]; exact ordB_map ho
  obtain ⟨a, cap, rfl, _, _⟩ := hr
  clear hg ho hs
  go_enter Try.func19, Try.ntmps19
  go_wp2_with fail
  refine (l5Both_eq _ _ xs (ofN os) true hn _ HR.out HS.out).mono ?_
  rintro e w1 ⟨rfl, b1⟩
  have B1 := hid b1
  clear b1
  go_wp2_with fail
  refine (slate5_any _ _ xs os _ (HR.out.below B1.out) (HS.out.below B1.out) HG.out HP.out).mono ?_
  rintro e w2 ⟨rfl, b2⟩
  have B2 : Hid (Below w.heap.size w w2) := B1.out.trans (b2.mono B1.out.size)
  clear b2
  go_wp2
  go_ret2
  exact ⟨rfl, B2.out⟩
end Go.Proofs.Ytpkngcamaahhdab
