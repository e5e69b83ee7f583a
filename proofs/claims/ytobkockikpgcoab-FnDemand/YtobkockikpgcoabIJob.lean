/-
  impl.wrongJob, impl.GoodJobs: whether jobs are as the document says. Nothing old is written.
-/
import Derived.Test.YtobkockikpgcoabEdfMath
namespace Go.Proofs.Ytobkockikpgcoab
open Go.RowKit

abbrev wrongV : Value := .func (.func 31) #[] #[]
set_option maxHeartbeats 2000000 in
theorem wrongJob_eq (x : JbEl) (t : Bool) (h : jobB x = t) (w : World) : Calls Try.prog 31 #[.agg #[.int .i64 x.1, .int .i64 x.2.1, .int .i64 x.2.2]] w fun e w' => e = .returned (.bool (!t)) ∧ Below w.heap.size w w' := by
  obtain ⟨p, q, r⟩ := x
  have HT : Hid ((decide (0 ≤ p ∧ p ≤ 23) && (decide (1 ≤ q ∧ q ≤ 6) && decide (p + 1 ≤ r ∧ r ≤ 24))) = t) := h
  clear h
  by_cases h1 : p < 0
  · have HV : Hid (t = false) := by show _ = _; rw [← HT.out, decide_eq_false (p := 0 ≤ p ∧ p ≤ 23) (by omega)]; rfl
    have d1 : decide (p < 0) = true := by simpa using h1
    clear HT
    go_enter Try.func31, Try.ntmps31
    go_wp2
    go_ret
    exact ⟨by rw [HV.out]; rfl, by go_grown⟩
  have d1 : decide (p < 0) = false := by simpa using h1
  by_cases h2 : q < 1
  · have HV : Hid (t = false) := by show _ = _; rw [← HT.out, decide_eq_false (p := 1 ≤ q ∧ q ≤ 6) (by omega)]; simp
    have d2 : decide (q < 1) = true := by simpa using h2
    clear HT
    go_enter Try.func31, Try.ntmps31
    go_wp2
    go_ret
    exact ⟨by rw [HV.out]; rfl, by go_grown⟩
  have d2 : decide (q < 1) = false := by simpa using h2
  by_cases h3 : 6 < q
  · have HV : Hid (t = false) := by show _ = _; rw [← HT.out, decide_eq_false (p := 1 ≤ q ∧ q ≤ 6) (by omega)]; simp
    have d3 : decide (6 < q) = true := by simpa using h3
    clear HT
    go_enter Try.func31, Try.ntmps31
    go_wp2
    go_ret
    exact ⟨by rw [HV.out]; rfl, by go_grown⟩
  have d3 : decide (6 < q) = false := by simpa using h3
  by_cases h4 : r ≤ p
  · have HV : Hid (t = false) := by show _ = _; rw [← HT.out, decide_eq_false (p := p + 1 ≤ r ∧ r ≤ 24) (by omega)]; simp
    have d4 : decide (r ≤ p) = true := by simpa using h4
    clear HT
    go_enter Try.func31, Try.ntmps31
    go_wp2
    go_ret
    exact ⟨by rw [HV.out]; rfl, by go_grown⟩
  have d4 : decide (r ≤ p) = false := by simpa using h4
  by_cases h5 : 24 < r
  · have HV : Hid (t = false) := by show _ = _; rw [← HT.out, decide_eq_false (p := p + 1 ≤ r ∧ r ≤ 24) (by omega)]; simp
    have d5 : decide (24 < r) = true := by simpa using h5
    clear HT
    go_enter Try.func31, Try.ntmps31
    go_wp2
    go_ret
    exact ⟨by rw [HV.out]; rfl, by go_grown⟩
  have d5 : decide (24 < r) = false := by simpa using h5
  have HV : Hid (t = true) := by show _ = _; rw [← HT.out, decide_eq_true (p := 0 ≤ p ∧ p ≤ 23) (by omega), decide_eq_true (p := 1 ≤ q ∧ q ≤ 6) (by omega), decide_eq_true (p := p + 1 ≤ r ∧ r ≤ 24) (by omega)]; rfl
  clear HT
  go_enter Try.func31, Try.ntmps31
  go_wp2
  go_ret
  exact ⟨by rw [HV.out]; rfl, by go_grown⟩

/-- slices.IndexFunc with wrongJob: below 0 just where all are good. -/
theorem jindex_any (v : Value) (xs : List JbEl) (w : World) (hr : JbReads w v xs) :
    Calls Try.prog 40 #[v, wrongV] w fun e w' => ∃ r : Int, e = .returned (.int .i64 r) ∧ decide (0 ≤ r) = !(xs.all jobB) ∧ Below w.heap.size w w' := by
  have HR := hid hr
  obtain ⟨a, cap, rfl, hl, _⟩ := hr
  go_enter Try.func40, Try.ntmps40
  go_wp2
  go_loopw [8] (fun i wr => ∃ k : Nat, k ≤ xs.length ∧ i = .int .i64 k ∧ (xs.take k).all jobB = true ∧ Below w.heap.size w wr) (fun i _ => xs.length - (intOf i).toNat)
  case atStart => exact ⟨0, Nat.zero_le _, rfl, rfl, Below.refl _ _⟩
  case round =>
    obtain ⟨k, hk, rfl, hall, hbel⟩ := hrel
    have HL := hid hall
    have HB := hid hbel
    clear hall hbel
    by_cases hlt : k < xs.length
    · obtain ⟨g, o, cap', e, hc⟩ := (HR.out.below HB.out).cells k hlt
      cases e
      obtain ⟨x, hx0⟩ : ∃ x, x = xs.getD k (0, 0, 0) := ⟨_, rfl⟩
      have hck := hc k hlt
      rw [← hx0] at hck
      obtain ⟨c0, c1, c2⟩ := hck
      obtain ⟨b, hb⟩ : ∃ b, jobB (xs.getD k (0, 0, 0)) = b := ⟨_, rfl⟩
      have HK := hid hb
      have HKX : Hid (jobB x = b) := by rw [hx0]; exact hb
      have HS : Hid ((xs.take (k + 1)).all jobB = b) := by show _ = _; rw [jall_take xs k hlt, HL.out, hb, Bool.true_and]
      clear hc hb hx0
      go_wp2_with fail
      refine (wrongJob_eq x b HKX.out _).mono ?_
      rintro e w2 ⟨rfl, b2⟩
      have B2 : Hid (Below w.heap.size w w2) := HB.out.trans (b2.mono HB.out.size)
      clear b2
      cases b
      · have hv : Hid (xs.all jobB = false) := jall_false k hlt HK.out
        go_wp2
        go_ret
        exact ⟨_, rfl, by rw [hv.out]; simp, B2.out⟩
      · go_wp2
        go_roundw
        case rel => exact ⟨k + 1, by omega, by go_num, HS.out, B2.out⟩
        case measure => simp [intOf]; omega
    · have hv : Hid (xs.all jobB = true) := by show _ = _; have := HL.out; rw [List.take_of_length_le (by omega)] at this; exact this
      go_wp2
      go_ret
      exact ⟨_, rfl, by rw [hv.out]; rfl, HB.out⟩
theorem jcontains_any (v : Value) (xs : List JbEl) (t : Bool) (ht : xs.all jobB = t) (w : World) (hr : JbReads w v xs) :
    Calls Try.prog 30 #[v, wrongV] w fun e w' => e = .returned (.bool (!t)) ∧ Below w.heap.size w w' := by
  have HR := hid hr
  have HT := hid ht
  clear hr ht
  go_enter Try.func30, Try.ntmps30
  go_wp2_with fail
  refine (jindex_any v xs _ HR.out).mono ?_
  rintro e w2 ⟨r, rfl, hd, b2⟩
  rw [HT.out] at hd
  have B2 := hid b2
  clear b2
  go_wp2
  go_ret
  exact ⟨by rw [← hd]; rfl, B2.out⟩

set_option maxHeartbeats 1000000 in
theorem igoodJobs_eq (v : Value) (xs : List JbEl) (t : Bool) (h : goodJ xs = t) (w : World) (hr : JbReads w v xs) :
    Calls Try.prog 16 #[v] w fun e w' => e = .returned (.bool t) ∧ Below w.heap.size w w' := by
  have HT : Hid ((xs.all jobB && decide (xs.length ≤ 8)) = t) := h
  clear h
  have HR := hid hr
  obtain ⟨a, cap, rfl, _, _⟩ := hr
  by_cases h8 : xs.length ≤ 8
  · obtain ⟨b, hb⟩ : ∃ b, xs.all jobB = b := ⟨_, rfl⟩
    have HA : Hid (t = b) := by show _ = _; rw [← HT.out, hb]; simp [h8]
    have hd : decide ((xs.length : Int) ≤ 8) = true := by simp; omega
    have HB := hid hb
    clear hb
    go_enter Try.func16, Try.ntmps16
    go_wp2_with fail
    refine (jcontains_any _ xs b HB.out _ HR.out).mono ?_
    rintro e w2 ⟨rfl, b2⟩
    have B2 := hid b2
    clear b2
    go_wp2
    go_ret
    exact ⟨by rw [HA.out]; simp, B2.out⟩
  · have hv : Hid (t = false) := by show _ = _; rw [← HT.out]; simp [h8]
    have hd : decide ((xs.length : Int) ≤ 8) = false := by simp; omega
    go_enter Try.func16, Try.ntmps16
    go_wp2
    go_ret
    exact ⟨by rw [hv.out]; rfl, Below.refl _ _⟩
end Go.Proofs.Ytobkockikpgcoab
