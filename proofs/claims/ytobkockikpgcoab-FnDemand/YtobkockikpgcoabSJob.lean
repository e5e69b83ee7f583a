/-
  spec.l4Job, spec.GoodJobs: whether jobs are as the document says. Nothing old is written.
-/
import Derived.Test.YtobkockikpgcoabSIn
import Derived.Test.YtobkockikpgcoabEdfMath
namespace Go.Proofs.Ytobkockikpgcoab
open Go.RowKit

set_option maxHeartbeats 1000000 in
theorem l4Job_eq (x : JbEl) (t : Bool) (h : jobB x = t) (w : World) : Calls Try.prog 28 #[.agg #[.int .i64 x.1, .int .i64 x.2.1, .int .i64 x.2.2]] w fun e w' => e = .returned (.bool t) ∧ Below w.heap.size w w' := by
  obtain ⟨p, q, r⟩ := x
  have HT : Hid ((decide (0 ≤ p ∧ p ≤ 23) && (decide (1 ≤ q ∧ q ≤ 6) && decide (p + 1 ≤ r ∧ r ≤ 24))) = t) := h
  clear h
  by_cases h1 : 0 ≤ p ∧ p ≤ 23
  · have H1 : Hid (decide (0 ≤ p ∧ p ≤ 23) = true) := by show _ = _; simpa using h1
    by_cases h2 : 1 ≤ q ∧ q ≤ 6
    · have H2 : Hid (decide (1 ≤ q ∧ q ≤ 6) = true) := by show _ = _; simpa using h2
      have HV : Hid (decide (p + 1 ≤ r ∧ r ≤ 24) = t) := by show _ = _; rw [← HT.out, H1.out, H2.out]; rfl
      have hw : IntKind.i64.wrap (p + 1) = p + 1 := by rw [IntKind.wrap_i64]; omega
      clear h1 h2
      go_enter Try.func28, Try.ntmps28
      go_wp2_with fail
      refine (l1In_eq p 0 23 true H1.out _).mono ?_
      rintro e w' ⟨rfl, hw⟩; obtain rfl := hw.symm
      go_wp2_with fail
      refine (l1In_eq q 1 6 true H2.out _).mono ?_
      rintro e w' ⟨rfl, hw⟩; obtain rfl := hw.symm
      go_wp2_with fail
      refine (l1In_eq r (p + 1) 24 t HV.out _).mono ?_
      rintro e w' ⟨rfl, hw⟩; obtain rfl := hw.symm
      go_wp2
      go_ret
      exact ⟨rfl, by go_grown⟩
    · have H2 : Hid (decide (1 ≤ q ∧ q ≤ 6) = false) := by show _ = _; rw [decide_eq_false_iff_not]; exact h2
      have HV : Hid (t = false) := by show _ = _; rw [← HT.out, H1.out, H2.out]; rfl
      clear h1 h2
      go_enter Try.func28, Try.ntmps28
      go_wp2_with fail
      refine (l1In_eq p 0 23 true H1.out _).mono ?_
      rintro e w' ⟨rfl, hw⟩; obtain rfl := hw.symm
      go_wp2_with fail
      refine (l1In_eq q 1 6 false H2.out _).mono ?_
      rintro e w' ⟨rfl, hw⟩; obtain rfl := hw.symm
      go_wp2
      go_ret
      exact ⟨by rw [HV.out]; rfl, by go_grown⟩
  · have H1 : Hid (decide (0 ≤ p ∧ p ≤ 23) = false) := by show _ = _; rw [decide_eq_false_iff_not]; exact h1
    have HV : Hid (t = false) := by show _ = _; rw [← HT.out, H1.out]; rfl
    clear h1
    go_enter Try.func28, Try.ntmps28
    go_wp2_with fail
    refine (l1In_eq p 0 23 false H1.out _).mono ?_
    rintro e w' ⟨rfl, hw⟩; obtain rfl := hw.symm
    go_wp2
    go_ret
    exact ⟨by rw [HV.out]; rfl, by go_grown⟩

set_option maxHeartbeats 1000000 in
theorem sgoodJobs_eq (v : Value) (xs : List JbEl) (t : Bool) (h : goodJ xs = t) (w : World) (hr : JbReads w v xs) :
    Calls Try.prog 19 #[v] w fun e w' => e = .returned (.bool t) ∧ Below w.heap.size w w' := by
  have HT : Hid ((xs.all jobB && decide (xs.length ≤ 8)) = t) := h
  clear h
  have HR := hid hr
  obtain ⟨a, cap, rfl, _, _⟩ := hr
  go_enter Try.func19, Try.ntmps19
  go_wp2
  go_loopw [7] (fun i wr => ∃ k : Nat, k ≤ xs.length ∧ i = .int .i64 k ∧ (xs.take k).all jobB = true ∧ Below w.heap.size w wr) (fun i _ => xs.length - (intOf i).toNat)
  case atStart => exact ⟨0, Nat.zero_le _, rfl, rfl, Below.refl _ _⟩
  case round =>
    obtain ⟨k, hk, rfl, hall, hbel⟩ := hrel
    have HA := hid hall
    have HB := hid hbel
    clear hall hbel
    by_cases hlt : k < xs.length
    · obtain ⟨g, o, cap', e, hc⟩ := (HR.out.below HB.out).cells k hlt
      cases e
      obtain ⟨x, hx0⟩ : ∃ x, x = xs.getD k (0, 0, 0) := ⟨_, rfl⟩
      have hck := hc k hlt
      rw [← hx0] at hck
      obtain ⟨c0, c1, c2⟩ := hck
      obtain ⟨b, hb⟩ : ∃ b, jobB (xs.getD k (0, 0, 0)) = b := ⟨_, rfl⟩
      have HK := hid hb
      have HKX : Hid (jobB x = b) := by rw [hx0]; exact hb
      have HS : Hid ((xs.take (k + 1)).all jobB = b) := by show _ = _; rw [jall_take xs k hlt, HA.out, hb, Bool.true_and]
      clear hc hb hx0
      go_wp2_with fail
      refine (l4Job_eq x b HKX.out _).mono ?_
      rintro e w2 ⟨rfl, b2⟩
      have B2 : Hid (Below w.heap.size w w2) := (HB.out.alloc HB.out.size _).trans (b2.mono (by have := HB.out.size; simp; omega))
      clear b2
      cases b
      · have hv : Hid (t = false) := by have := HT.out; rw [jall_false k hlt HK.out] at this; exact this.symm
        go_wp2
        go_ret
        exact ⟨by rw [hv.out]; rfl, B2.out⟩
      · go_wp2
        go_roundw
        case rel => exact ⟨k + 1, by omega, by go_num, HS.out, B2.out⟩
        case measure => simp [intOf]; omega
    · have ha : xs.all jobB = true := by have := HA.out; rw [List.take_of_length_le (by omega)] at this; exact this
      have hv : Hid (t = decide (xs.length ≤ 8)) := by have := HT.out; rw [ha, Bool.true_and] at this; exact this.symm
      clear ha
      by_cases h8 : xs.length ≤ 8
      · have hv' : Hid (t = true) := by show _ = _; rw [hv.out]; simpa using h8
        go_wp2
        go_ret
        exact ⟨by rw [hv'.out]; simp; omega, HB.out⟩
      · have hv' : Hid (t = false) := by show _ = _; rw [hv.out]; simpa using h8
        go_wp2
        go_ret
        exact ⟨by rw [hv'.out]; simp; omega, HB.out⟩
end Go.Proofs.Ytobkockikpgcoab
