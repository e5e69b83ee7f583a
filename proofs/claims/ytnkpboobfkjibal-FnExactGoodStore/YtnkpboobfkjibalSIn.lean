/-
  spec.l1In: whether a number lies between two. Nothing is written.
  spec.l13Id: whether an id and a length are as said. Nothing is written.
  spec.l11Rising: whether letters rise, all below many. Nothing is written.
-/
import Derived.Test.YtnkpboobfkjibalInts
import Derived.Test.YtnkpboobfkjibalBlMath
import Derived.Test.YtnkpboobfkjibalFlowFns
import Derived.Test.YtnkpboobfkjibalKIntRows
namespace Go.Proofs.Ytnkpboobfkjibal
open Go.RowKit

theorem l1In_eq (n lo hi : Int) (t : Bool) (h : decide (lo ≤ n ∧ n ≤ hi) = t) (w : World) : Calls Try.prog 29 #[.int .i64 n, .int .i64 lo, .int .i64 hi] w fun e w' => e = .returned (.bool t) ∧ w' = w := by
  by_cases h1 : lo ≤ n
  · by_cases h2 : n ≤ hi
    · have hv : Hid (t = true) := by show _ = _; rw [← h]; simp [h1, h2]
      clear h
      go_enter Try.func29, Try.ntmps29
      go_wp2
      go_ret
      exact ⟨by rw [hv.out]; rfl, rfl⟩
    · have hv : Hid (t = false) := by show _ = _; rw [← h]; simp [h2]
      clear h
      go_enter Try.func29, Try.ntmps29
      go_wp2
      go_ret
      exact ⟨by rw [hv.out]; rfl, rfl⟩
  · have hv : Hid (t = false) := by show _ = _; rw [← h]; simp [h1]
    clear h
    go_enter Try.func29, Try.ntmps29
    go_wp2
    go_ret
    exact ⟨by rw [hv.out]; rfl, rfl⟩
end Go.Proofs.Ytnkpboobfkjibal
namespace Go.Proofs.Ytnkpboobfkjibal
open Go.RowKit

set_option maxHeartbeats 2000000 in
theorem sid13_eq (z l : Int) (t : Bool) (h : idB z l = t) (w : World) :
    Calls Try.prog 25 #[.int .i64 z, .int .i64 l] w fun e w' => e = .returned (.bool t) ∧ w' = w := by
  unfold idB at h
  obtain ⟨b1, e1⟩ : ∃ b, decide (0 ≤ z ∧ z ≤ 1000) = b := ⟨_, rfl⟩
  obtain ⟨b2, e2⟩ : ∃ b, decide (1 ≤ l ∧ l ≤ 40) = b := ⟨_, rfl⟩
  rw [e1, e2] at h
  have HT := hid h
  have E1 := hid e1
  have E2 := hid e2
  clear h e1 e2
  go_enter Try.func25, Try.ntmps25
  go_wp2_with fail
  refine (l1In_eq z 0 1000 b1 E1.out _).mono ?_
  rintro e w' ⟨rfl, hw⟩; obtain rfl := hw.symm
  cases b1
  · have HV : Hid (t = false) := HT.out.symm
    go_wp2
    go_ret
    exact ⟨by rw [HV.out]; rfl, rfl⟩
  go_wp2_with fail
  refine (l1In_eq l 1 40 b2 E2.out _).mono ?_
  rintro e w' ⟨rfl, hw⟩; obtain rfl := hw.symm
  have HV : Hid (b2 = t) := HT.out
  go_wp2
  go_ret
  exact ⟨by rw [← HV.out]; rfl, rfl⟩
end Go.Proofs.Ytnkpboobfkjibal
namespace Go.Proofs.Ytnkpboobfkjibal
open Go.RowKit

set_option maxRecDepth 100000 in
set_option maxHeartbeats 4000000 in
theorem sris_eq (v : Value) (xs : List Int) (many : Int) (t : Bool) (h : risB xs many = t) (hm : 0 ≤ many ∧ many ≤ 100000) (w : World) (hr : KReads w v xs) :
    Calls Try.prog 14 #[v, .int .i64 many] w fun e w' => e = .returned (.bool t) ∧ w' = w := by
  have HT := hid h
  have HR := hid hr
  obtain ⟨a, cap, rfl, hl, _⟩ := hr
  obtain ⟨m1, hm1⟩ : ∃ m1, m1 = many - 1 := ⟨_, rfl⟩
  have hw1 : IntKind.i64.wrap (many - 1) = m1 := by rw [hm1, IntKind.wrap_i64]; omega
  have HM := hid hm1
  clear h hm1
  go_enter Try.func14, Try.ntmps14
  go_wp2
  go_loopw [9] (fun i wr => ∃ k : Nat, k ≤ xs.length ∧ i = .int .i64 k ∧ risU xs many k = true ∧ w = wr) (fun i _ => xs.length - (intOf i).toNat)
  case atStart => exact ⟨0, Nat.zero_le _, rfl, rfl, rfl⟩
  case round =>
    obtain ⟨k, hk, rfl, hu, rfl⟩ := hrel
    have HU := hid hu
    clear hu
    by_cases hlt : k < xs.length
    · obtain ⟨g, o, cap', e, hc⟩ := HR.out.cells k hlt
      cases e
      obtain ⟨x, hx⟩ : ∃ x, x = fl xs k := ⟨_, rfl⟩
      have cx : w.cell? ⟨g, o + k, none⟩ = some (.int .i64 x) := by rw [hx]; exact hc k hlt
      obtain ⟨y, hy⟩ : ∃ y, y = fl xs (k - 1) := ⟨_, rfl⟩
      have HC : Hid (0 < k → w.cell? ⟨g, o + (k - 1), none⟩ = some (.int .i64 y)) := fun h => by rw [hy]; exact hc (k - 1) (by omega)
      obtain ⟨b1, hb1⟩ : ∃ b, decide (0 ≤ x ∧ x ≤ m1) = b := ⟨_, rfl⟩
      have HB1 := hid hb1
      have HS : Hid (risU xs many (k + 1) = (b1 && (decide (k = 0) || decide (y < x)))) := by
        show (risU xs many k && _) = _
        rw [HU.out, ← hx, ← hy, ← HM.out, hb1]; rfl
      have HF : Hid (risU xs many (k + 1) = false → t = false) := fun h => by rw [← HT.out]; exact risU_no h _ (by omega)
      have m0 : (0 : Int) ≤ (k : Int) := by omega
      have n1 : (k : Int) < (xs.length : Int) := by omega
      clear hx hy hb1 hc
      go_wp2_with fail
      refine (l1In_eq x 0 m1 b1 HB1.out _).mono ?_
      rintro e w' ⟨rfl, hw⟩; obtain rfl := hw.symm
      cases b1
      · have HV : Hid (t = false) := HF.out HS.out
        go_wp2
        go_ret
        exact ⟨by rw [HV.out]; rfl, rfl⟩
      by_cases hk0 : k = 0
      · subst hk0
        have HN : Hid (risU xs many (0 + 1) = true) := HS.out
        go_wp2
        go_roundw
        case rel => exact ⟨1, by omega, by go_num, HN.out, by first | rfl | trivial⟩
        case measure => simp [intOf]; omega
      · have hk1 : decide ((0 : Int) < (k : Int)) = true := by rw [decide_eq_true_eq]; omega
        have hw2 : IntKind.i64.wrap ((k : Int) - 1) = ((k - 1 : Nat) : Int) := by rw [IntKind.wrap_i64]; omega
        have cy := HC.out (by omega)
        have i0 : (0 : Int) ≤ ((k - 1 : Nat) : Int) := by omega
        have i1 : ((k - 1 : Nat) : Int) < (xs.length : Int) := by omega
        by_cases hyx : y < x
        · have hd : decide (x ≤ y) = false := by rw [decide_eq_false_iff_not]; omega
          have HN : Hid (risU xs many (k + 1) = true) := by show _ = _; rw [HS.out, decide_eq_true hyx]; simp
          obtain ⟨k1, hk1'⟩ : ∃ k1, k1 = k - 1 := ⟨_, rfl⟩
          rw [← hk1'] at hw2 cy i0 i1
          clear hyx hk1'
          go_wp2
          go_roundw
          case rel => exact ⟨k + 1, by omega, by go_num, HN.out, by first | rfl | trivial⟩
          case measure => simp [intOf]; omega
        · have hd : decide (x ≤ y) = true := by rw [decide_eq_true_eq]; omega
          have HV : Hid (t = false) := HF.out (by rw [HS.out, decide_eq_false hyx, decide_eq_false hk0]; rfl)
          obtain ⟨k1, hk1'⟩ : ∃ k1, k1 = k - 1 := ⟨_, rfl⟩
          rw [← hk1'] at hw2 cy i0 i1
          clear hyx hk1'
          go_wp2
          go_ret
          exact ⟨by rw [HV.out]; rfl, rfl⟩
    · have HV : Hid (t = true) := by show _ = _; rw [← HT.out]; have h := HU.out; rw [show k = xs.length by omega] at h; exact h
      go_wp2
      go_ret
      exact ⟨by rw [HV.out]; rfl, rfl⟩
end Go.Proofs.Ytnkpboobfkjibal
