/-
  impl.latenesses: how much each task is done behind its end, in memory of its own. Nothing old is written.
  impl.LateMany: how many are done behind their end. Nothing old is written.
-/
import Derived.Test.YtpkngcamaahhdabIDone
import Derived.Test.YtpkngcamaahhdabITask
import Derived.Test.YtpkngcamaahhdabIOrd
namespace Go.Proofs.Ytpkngcamaahhdab
open Go.RowKit

/-- How much task k is done behind its end. -/
def latV (xs : List TkEl) (os : List Nat) (k : Nat) : Int := doneAt (needT xs) 0 os k - endT xs k
def latL (xs : List TkEl) (os : List Nat) : List Int := (List.range xs.length).map (latV xs os)
def latU (xs : List TkEl) (os : List Nat) (k : Nat) : List Int := (List.range xs.length).map fun i => if i < k then latV xs os i else doneAt (needT xs) 0 os i
theorem latU_zero (xs : List TkEl) (os : List Nat) : latU xs os 0 = doneL xs os := by simp [latU, doneL]
theorem latU_all (xs : List TkEl) (os : List Nat) : latU xs os xs.length = latL xs os := by
  unfold latU latL
  refine List.map_congr_left fun i hi => ?_
  rw [if_pos (List.mem_range.1 hi)]
theorem latU_len (xs : List TkEl) (os : List Nat) (k : Nat) : (latU xs os k).length = xs.length := by simp [latU]
theorem latU_get {xs : List TkEl} {os : List Nat} {k : Nat} (h : k < xs.length) : (latU xs os k).getD k 0 = doneAt (needT xs) 0 os k := by simp [latU, List.getD_eq_getElem?_getD, h]
theorem latL_len (xs : List TkEl) (os : List Nat) : (latL xs os).length = xs.length := by simp [latL]
theorem latL_get {xs : List TkEl} {os : List Nat} {k : Nat} (h : k < xs.length) : (latL xs os).getD k 0 = latV xs os k := by simp [latL, List.getD_eq_getElem?_getD, h]
theorem latU_succ (xs : List TkEl) (os : List Nat) (k : Nat) : latU xs os (k + 1) = (latU xs os k).set k (latV xs os k) := by
  apply List.ext_getElem
  · simp [latU]
  · intro i h1 h2
    simp only [latU, List.getElem_map, List.getElem_range, List.getElem_set]
    by_cases e : k = i
    · subst e; simp
    · rw [if_neg e]
      by_cases hi : i < k
      · rw [if_pos hi, if_pos (by omega)]
      · rw [if_neg hi, if_neg (by omega)]
set_option maxHeartbeats 8000000 in
theorem ilats_any (v vo : Value) (xs : List TkEl) (os : List Nat) (w : World) (hr : TkReads w v xs) (hs : KReads w vo (ofN os)) (hg : goodT xs = true) (ho : os.Perm (List.range xs.length)) :
    Calls Try.prog 50 #[v, vo] w fun e w' => e = .returned (.slice (some ⟨w.heap.size, 0, none⟩) xs.length xs.length) ∧ IRow w' w.heap.size xs.length xs.length (latL xs os) ∧ Below w.heap.size w w' := by
  have HR := hid hr
  have HS := hid hs
  have HG := hid hg
  have HP := hid ho
  have hlen := goodT_len hg
  obtain ⟨a, cap, rfl, _, _⟩ := hr
  clear hs hg ho
  go_enter Try.func50, Try.ntmps50
  go_wp2_with fail
  refine (idone_any _ vo xs os _ HR.out HS.out HG.out HP.out).mono ?_
  rintro e w1 ⟨rfl, hrow, b1⟩
  rw [← latU_zero] at hrow
  have O1 := hid hrow
  have B1 := hid b1
  clear hrow b1
  go_wp2
  go_loopw [13] (fun i wr => ∃ k : Nat, k ≤ xs.length ∧ i = .int .i64 k ∧ IRow wr w.heap.size xs.length xs.length (latU xs os k) ∧ Below w.heap.size w wr) (fun i _ => xs.length - (intOf i).toNat)
  case atStart => exact ⟨0, by omega, rfl, O1.out, B1.out⟩
  case round =>
    obtain ⟨k, hk, rfl, hown, hbel⟩ := hrel
    have HO := hid hown
    have HB := hid hbel
    clear hown hbel O1 B1
    by_cases hlt : k < xs.length
    · obtain ⟨g, o, cap', e, hc⟩ := (HR.out.below HB.out).cells k hlt
      cases e
      obtain ⟨c0, c1⟩ := hc k hlt
      have hnd := goodT_at HG.out k hlt
      have hdn := doneAt_in HG.out HP.out k
      obtain ⟨p, hp⟩ : ∃ p, p = (xs.getD k (0, 0)).1 := ⟨_, rfl⟩
      obtain ⟨q, hq⟩ : ∃ q, q = (xs.getD k (0, 0)).2 := ⟨_, rfl⟩
      rw [← hp] at c0
      rw [← hq] at c1
      have hq' : endT xs k = q := by rw [hq]; rfl
      obtain ⟨s, hs⟩ : ∃ s, s = doneAt (needT xs) 0 os k := ⟨_, rfl⟩
      have HN := hid (latU_succ xs os k)
      have HV : Hid (latV xs os k = s - q) := by show _ = _; unfold latV; rw [hq', hs]
      rw [hq'] at hnd
      rw [← hs] at hdn
      have hw1 : IntKind.i64.wrap (s - q) = s - q := by rw [IntKind.wrap_i64]; omega
      have cs : wr.cell? ⟨w.heap.size, k, none⟩ = some (.int .i64 s) := by have := HO.out.cell hlt; rw [latU_get hlt, ← hs] at this; exact this
      have fs : wr.frozen? ⟨w.heap.size, k, none⟩ = false := HO.out.free k
      have hb1 : w.heap.size < wr.heap.size := HO.out.caps.2.2
      have n0 : (0 : Int) ≤ (k : Int) := by omega
      have n1 : (k : Int) < (xs.length : Int) := by omega
      clear hc hp hq hq' hs hnd hdn
      go_wp2_with fail
      go_big_region
      go_wp2
      go_roundw
      case rel =>
        refine ⟨k + 1, by omega, by go_num, ?_, ?_⟩
        · rw [HN.out, HV.out]
          exact (HO.out.set k (s - q)).whole (((Below.refl _ _).alloc (Nat.le_refl _) _).drew)
        · exact ((HB.out.setCell (by show w.heap.size ≤ w.heap.size; exact Nat.le_refl _) _).alloc (by simpa using HB.out.size) _).drew
      case measure => simp [intOf]; omega
    · obtain rfl : k = xs.length := by omega
      go_wp2
      go_ret
      refine ⟨rfl, ?_, HB.out⟩
      have := HO.out
      rw [latU_all] at this
      exact this
end Go.Proofs.Ytpkngcamaahhdab
namespace Go.Proofs.Ytpkngcamaahhdab
open Go.RowKit

set_option maxHeartbeats 2000000 in
theorem ilatem_no (v vo : Value) (xs : List TkEl) (ys : List Int) (w : World) (hr : TkReads w v xs) (hs : KReads w vo ys) (hn : (goodT xs && ordB xs.length ys) = false) :
    Calls Try.prog 18 #[v, vo] w fun e w' => e = .returned (.tuple #[.int .i64 0, .bool false]) ∧ Below w.heap.size w w' := by
  have HR := hid hr
  have HS := hid hs
  have HN := hid hn
  obtain ⟨a, cap, rfl, _, _⟩ := hr
  clear hs hn
  obtain ⟨b, hb⟩ : ∃ b, goodT xs = b := ⟨_, rfl⟩
  have HG := hid hb
  cases b
  · clear hb
    go_enter Try.func18, Try.ntmps18
    go_wp2_with fail
    refine (igoodTasks_eq _ xs false HG.out _ HR.out).mono ?_
    rintro e w1 ⟨rfl, b1⟩
    have B1 := hid b1
    clear b1
    go_wp2
    go_ret2
    exact ⟨rfl, B1.out⟩
  · have hl := goodT_len hb
    have HO : Hid (ordB xs.length ys = false) := by have := HN.out; rw [hb, Bool.true_and] at this; exact this
    clear hb
    go_enter Try.func18, Try.ntmps18
    go_wp2_with fail
    refine (igoodTasks_eq _ xs true HG.out _ HR.out).mono ?_
    rintro e w1 ⟨rfl, b1⟩
    have B1 := hid b1
    clear b1
    go_wp2_with fail
    refine (igoodOrder_eq _ ys xs.length false HO.out (by omega) _ (HS.out.below B1.out)).mono ?_
    rintro e w2 ⟨rfl, b2⟩
    have B2 : Hid (Below w.heap.size w w2) := B1.out.trans (b2.mono B1.out.size)
    clear b2
    go_wp2
    go_ret2
    exact ⟨rfl, B2.out⟩
set_option maxHeartbeats 4000000 in
theorem ilatem_yes (v vo : Value) (xs : List TkEl) (os : List Nat) (w : World) (hr : TkReads w v xs) (hs : KReads w vo (ofN os)) (hg : goodT xs = true) (ho : os.Perm (List.range xs.length)) :
    Calls Try.prog 18 #[v, vo] w fun e w' => e = .returned (.tuple #[.int .i64 (lateT (needT xs) (endT xs) xs.length os : Nat), .bool true]) ∧ Below w.heap.size w w' := by
  have HR := hid hr
  have HS := hid hs
  have HG := hid hg
  have HP := hid ho
  have hl := goodT_len hg
  have HO : Hid (ordB xs.length (ofN os) = true) := ordB_map ho
  obtain ⟨a, cap, rfl, _, _⟩ := hr
  clear hs hg ho
  go_enter Try.func18, Try.ntmps18
  go_wp2_with fail
  refine (igoodTasks_eq _ xs true HG.out _ HR.out).mono ?_
  rintro e w1 ⟨rfl, b1⟩
  have B1 := hid b1
  clear b1
  go_wp2_with fail
  refine (igoodOrder_eq _ (ofN os) xs.length true HO.out (by omega) _ (HS.out.below B1.out)).mono ?_
  rintro e w2 ⟨rfl, b2⟩
  have B2 : Hid (Below w.heap.size w w2) := B1.out.trans (b2.mono B1.out.size)
  clear b2
  go_wp2_with fail
  refine (ilats_any _ vo xs os _ (HR.out.below B2.out) (HS.out.below B2.out) HG.out HP.out).mono ?_
  rintro e w3 ⟨rfl, hrow, b3⟩
  have O3 := hid hrow
  have B3 : Hid (Below w.heap.size w w3) := B2.out.trans (b3.mono B2.out.size)
  clear hrow b3
  go_wp2
  go_loopw [6, 23] (fun m i wr => ∃ k : Nat, k ≤ xs.length ∧ i = .int .i64 k ∧ m = .int .i64 (lateTU xs os k : Nat) ∧ w3 = wr) (fun _ i _ => xs.length - (intOf i).toNat)
  case atStart => exact ⟨0, by omega, rfl, rfl, rfl⟩
  case round =>
    obtain ⟨k, hk, rfl, rfl, rfl⟩ := hrel
    have hle := lateTU_le xs os k
    by_cases hlt : k < xs.length
    · obtain ⟨p, hp⟩ : ∃ p, p = latV xs os k := ⟨_, rfl⟩
      have c0 : w3.cell? ⟨w2.heap.size, k, none⟩ = some (.int .i64 p) := by have := O3.out.cell hlt; rw [latL_get hlt, ← hp] at this; exact this
      have HU := hid (lateTU_succ xs os k)
      have HV : Hid (p = doneAt (needT xs) 0 os k - endT xs k) := hp
      have n0 : (0 : Int) ≤ (k : Int) := by omega
      have n1 : (k : Int) < (xs.length : Int) := by omega
      clear hp
      by_cases h1 : 0 < p
      · have d1 : decide (0 < p) = true := by simpa using h1
        have HW : Hid (lateTU xs os (k + 1) = lateTU xs os k + 1) := by show _ = _; rw [HU.out, if_pos (by have := HV.out; omega)]
        generalize lateTU xs os k = m at hle HW ⊢
        go_wp2
        go_roundw
        case rel => exact ⟨k + 1, by omega, by go_num, by rw [HW.out]; go_num, by first | rfl | trivial⟩
        case measure => simp [intOf]; omega
      · have d1 : decide (0 < p) = false := by simpa using h1
        have HW : Hid (lateTU xs os (k + 1) = lateTU xs os k) := by show _ = _; rw [HU.out, if_neg (by have := HV.out; omega), Nat.add_zero]
        generalize lateTU xs os k = m at hle HW ⊢
        go_wp2
        go_roundw
        case rel => exact ⟨k + 1, by omega, by go_num, by rw [HW.out], by first | rfl | trivial⟩
        case measure => simp [intOf]; omega
    · obtain rfl : k = xs.length := by omega
      obtain ⟨m, hm⟩ : ∃ m, m = lateTU xs os xs.length := ⟨_, rfl⟩
      rw [← hm]
      have HM : Hid (m = lateT (needT xs) (endT xs) xs.length os) := hm
      clear hm hle
      go_wp2
      go_ret2
      exact ⟨by rw [← HM.out]; rfl, B3.out⟩
end Go.Proofs.Ytpkngcamaahhdab
