/-
  impl.conformsFromFirst: whether no while from the first tick on has too much. Nothing old is written.
-/
import Derived.Test.YtcieefggijjekacConfMath
import Derived.Test.YtcieefggijjekacBkForm
namespace Go.Proofs.Ytcieefggijjekac
open Go.RowKit

set_option maxRecDepth 100000 in
set_option maxHeartbeats 8000000 in
theorem iconf1_eq (r d q : Int) (v : Value) (ys : List Int) (t : Bool) (h : cf1 r d ys = t) (w : World) (hr : KReads w v ys) (hrb : rateB r d = true) (hf : flowB ys = true) :
    Calls Try.prog 37 #[bkV (r, d, q), v] w fun e w' => e = .returned (.bool t) ∧ Below w.heap.size w w' := by
  have HR := hid hr
  have HF := hid hf
  have HT := hid h
  have hlen := flowB_len hf
  have hrd := rateB_in hrb
  obtain ⟨a, cap, rfl, _, _⟩ := hr
  have hc := balloc3 w (r, d, q)
  have HC := hid hc.1
  obtain ⟨c0, c1, c2⟩ := hc.1
  clear hf h hrb hc
  show Calls Try.prog 37 #[.agg #[.int .i64 r, .int .i64 d, .int .i64 q], _] w fun e w' => e = .returned (.bool t) ∧ Below w.heap.size w w'
  go_enter Try.func37, Try.ntmps37
  go_wp2_with fail
  go_big_region
  go_wp2
  go_loopw [5, 6, 13] (fun sv mv iv wr => ∃ k : Nat, k ≤ ys.length ∧ iv = .int .i64 k ∧ sv = .int .i64 (psum (fl ys) k) ∧ mv = .int .i64 (d + r * (k : Int)) ∧ (∀ b, b < k → psum (fl ys) (b + 1) ≤ d + r * (b : Int)) ∧ BkCells wr w.heap.size 0 (r, d, q) ∧ Below w.heap.size w wr) (fun _ _ iv _ => ys.length - (intOf iv).toNat)
  case atStart => exact ⟨0, Nat.zero_le _, rfl, rfl, by simp, fun b hb => absurd hb (by omega), HC.out, by go_grown⟩
  case round =>
    obtain ⟨k, hk, rfl, rfl, rfl, hin, hcb, hbel⟩ := hrel
    have HIn := hid hin
    have HCB := hid hcb
    have HB := hid hbel
    clear hin hcb hbel c0 c1 c2 HC
    by_cases hlt : k < ys.length
    · obtain ⟨g, o, cap', e, hc⟩ := (HR.out.below HB.out).cells k hlt
      cases e
      have HS : Hid (psum (fl ys) (k + 1) = psum (fl ys) k + fl ys k) := rfl
      have hfi := flowB_in HF.out k
      have hp1 := psum_in (f := fl ys) (b := 60) (flowB_in HF.out) k
      obtain ⟨x, hx⟩ : ∃ x, x = fl ys k := ⟨_, rfl⟩
      have cx : wr.cell? ⟨g, o + k, none⟩ = some (.int .i64 x) := by rw [hx]; exact hc k hlt
      obtain ⟨sm, hsm⟩ : ∃ sm, sm = psum (fl ys) k := ⟨_, rfl⟩
      obtain ⟨m, hm⟩ : ∃ m, m = d + r * (k : Int) := ⟨_, rfl⟩
      have hmb : 0 ≤ m ∧ m ≤ 860 := by
        have a1 := Int.mul_nonneg (show 0 ≤ r by omega) (show (0 : Int) ≤ (k : Int) by omega)
        have a2 := Int.mul_le_mul (show r ≤ 20 by omega) (show (k : Int) ≤ 40 by omega) (by omega) (by omega)
        rw [hm]
        omega
      have HM := hid hm
      have HM2 : Hid (d + r * ((k + 1 : Nat) : Int) = m + r) := by
        show _ = _
        rw [hm, show ((k + 1 : Nat) : Int) = (k : Int) + 1 by omega, Int.mul_add, Int.mul_one]
        omega
      rw [← hsm, ← hx] at HS
      rw [← hsm] at hp1
      rw [← hx] at hfi
      rw [← hsm, ← hm]
      have hw1 : IntKind.i64.wrap (sm + x) = sm + x := by rw [IntKind.wrap_i64]; omega
      have hw2 : IntKind.i64.wrap (m + r) = m + r := by rw [IntKind.wrap_i64]; omega
      obtain ⟨c0, c1, c2⟩ := HCB.out
      clear hc hx hsm hm
      by_cases hgt : m < sm + x
      · have dg : decide (m < sm + x) = true := by simpa using hgt
        have HV : Hid (t = false) := by
          show _ = _
          rw [← HT.out]
          refine cf1_false (b := k) hlt ?_
          rw [HS.out, ← HM.out]
          exact hgt
        go_wp2
        go_ret
        exact ⟨by rw [HV.out]; rfl, HB.out⟩
      · have dg : decide (m < sm + x) = false := by simpa using hgt
        have HN : Hid (∀ b, b < k + 1 → psum (fl ys) (b + 1) ≤ d + r * (b : Int)) := fun b hb => by
          by_cases e : b = k
          · rw [e, HS.out, ← HM.out]; omega
          · exact HIn.out b (by omega)
        go_wp2
        go_roundw
        case rel => exact ⟨k + 1, by omega, by go_num, by rw [HS.out], by rw [HM2.out], HN.out, HCB.out, HB.out⟩
        case measure => simp [intOf]; omega
    · obtain rfl : k = ys.length := by omega
      have HV : Hid (t = true) := by show _ = _; rw [← HT.out, cf1_iff]; exact HIn.out
      go_wp2
      go_ret
      exact ⟨by rw [HV.out]; rfl, HB.out⟩
end Go.Proofs.Ytcieefggijjekac
