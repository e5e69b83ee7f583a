/-
  impl.risingBelow: whether letters rise, all below many. Nothing is written.
-/
import Derived.Test.YtnkpboobfkjibalFlowFns
import Derived.Test.YtnkpboobfkjibalKIntRows
namespace Go.Proofs.Ytnkpboobfkjibal
open Go.RowKit

set_option maxRecDepth 100000 in
set_option maxHeartbeats 4000000 in
theorem iris_eq (v : Value) (xs : List Int) (many : Int) (t : Bool) (h : risB xs many = t) (w : World) (hr : KReads w v xs) :
    Calls Try.prog 17 #[v, .int .i64 many] w fun e w' => e = .returned (.bool t) ∧ w' = w := by
  have HT := hid h
  have HR := hid hr
  obtain ⟨a, cap, rfl, hl, _⟩ := hr
  clear h
  go_enter Try.func17, Try.ntmps17
  go_wp2
  go_loopw [9] (fun i wr => ∃ k : Nat, k ≤ xs.length ∧ i = .int .i64 k ∧ risU xs many k = true ∧ w = wr) (fun i _ => xs.length - (intOf i).toNat)
  case atStart => exact ⟨0, Nat.zero_le _, rfl, rfl, rfl⟩
  case round =>
    obtain ⟨k, hk, rfl, hu, rfl⟩ := hrel
    have HU := hid hu
    clear hu
    by_cases hlt : k < xs.length
    · obtain ⟨g, o, cap', e, hc⟩ := HR.out.cells k hlt
      cases e
      obtain ⟨x, hx⟩ : ∃ x, x = fl xs k := ⟨_, rfl⟩
      have cx : w.cell? ⟨g, o + k, none⟩ = some (.int .i64 x) := by rw [hx]; exact hc k hlt
      obtain ⟨y, hy⟩ : ∃ y, y = fl xs (k - 1) := ⟨_, rfl⟩
      have HC : Hid (0 < k → w.cell? ⟨g, o + (k - 1), none⟩ = some (.int .i64 y)) := fun h => by rw [hy]; exact hc (k - 1) (by omega)
      obtain ⟨b1, hb1⟩ : ∃ b, decide (0 ≤ x ∧ x ≤ many - 1) = b := ⟨_, rfl⟩
      have HB1 := hid hb1
      have HS : Hid (risU xs many (k + 1) = (b1 && (decide (k = 0) || decide (y < x)))) := by
        show (risU xs many k && _) = _
        rw [HU.out, ← hx, ← hy, hb1]; rfl
      have HF : Hid (risU xs many (k + 1) = false → t = false) := fun h => by rw [← HT.out]; exact risU_no h _ (by omega)
      have m0 : (0 : Int) ≤ (k : Int) := by omega
      have n1 : (k : Int) < (xs.length : Int) := by omega
      clear hx hy hb1 hc
      by_cases hx0 : x < 0
      · have d0 : decide (x < 0) = true := by rw [decide_eq_true_eq]; exact hx0
        have HV : Hid (t = false) := HF.out (by rw [HS.out, ← HB1.out, decide_eq_false (by omega)]; rfl)
        clear hx0
        go_wp2
        go_ret
        exact ⟨by rw [HV.out]; rfl, rfl⟩
      have d0 : decide (x < 0) = false := by rw [decide_eq_false_iff_not]; exact hx0
      by_cases hx1 : many ≤ x
      · have d1 : decide (many ≤ x) = true := by rw [decide_eq_true_eq]; exact hx1
        have HV : Hid (t = false) := HF.out (by rw [HS.out, ← HB1.out, decide_eq_false (by omega)]; rfl)
        clear hx0 hx1
        go_wp2
        go_ret
        exact ⟨by rw [HV.out]; rfl, rfl⟩
      have d1 : decide (many ≤ x) = false := by rw [decide_eq_false_iff_not]; exact hx1
      obtain rfl : true = b1 := by rw [← HB1.out, decide_eq_true (by omega)]
      clear hx0 hx1
      by_cases hk0 : k = 0
      · subst hk0
        rw [Nat.add_zero] at cx
        have HN : Hid (risU xs many (0 + 1) = true) := HS.out
        go_wp2
        go_roundw
        case rel => exact ⟨1, by omega, by go_num, HN.out, by first | rfl | trivial⟩
        case measure => simp [intOf]; omega
      · have hk1 : decide ((0 : Int) < (k : Int)) = true := by rw [decide_eq_true_eq]; omega
        have hw2 : IntKind.i64.wrap ((k : Int) - 1) = ((k - 1 : Nat) : Int) := by rw [IntKind.wrap_i64]; omega
        have cy := HC.out (by omega)
        have i0 : (0 : Int) ≤ ((k - 1 : Nat) : Int) := by omega
        have i1 : ((k - 1 : Nat) : Int) < (xs.length : Int) := by omega
        by_cases hyx : y < x
        · have hd : decide (x ≤ y) = false := by rw [decide_eq_false_iff_not]; omega
          have HN : Hid (risU xs many (k + 1) = true) := by show _ = _; rw [HS.out, decide_eq_true hyx]; simp
          obtain ⟨k1, hk1'⟩ : ∃ k1, k1 = k - 1 := ⟨_, rfl⟩
          rw [← hk1'] at hw2 cy i0 i1
          clear hyx hk1'
          go_wp2
          go_roundw
          case rel => exact ⟨k + 1, by omega, by go_num, HN.out, by first | rfl | trivial⟩
          case measure => simp [intOf]; omega
        · have hd : decide (x ≤ y) = true := by rw [decide_eq_true_eq]; omega
          have HV : Hid (t = false) := HF.out (by rw [HS.out, decide_eq_false hyx, decide_eq_false hk0]; rfl)
          obtain ⟨k1, hk1'⟩ : ∃ k1, k1 = k - 1 := ⟨_, rfl⟩
          rw [← hk1'] at hw2 cy i0 i1
          clear hyx hk1'
          go_wp2
          go_ret
          exact ⟨by rw [HV.out]; rfl, rfl⟩
    · have HV : Hid (t = true) := by show _ = _; rw [← HT.out]; have h := HU.out; rw [show k = xs.length by omega] at h; exact h
      go_wp2
      go_ret
      exact ⟨by rw [HV.out]; rfl, rfl⟩
end Go.Proofs.Ytnkpboobfkjibal
