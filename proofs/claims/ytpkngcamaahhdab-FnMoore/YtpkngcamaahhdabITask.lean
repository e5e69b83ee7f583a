/-
  impl.wrongTask, impl.GoodTasks: whether tasks are as the document says. Nothing old is written.
-/
import Derived.Test.YtpkngcamaahhdabMooreMath
namespace Go.Proofs.Ytpkngcamaahhdab
open Go.RowKit

abbrev wrongTV : Value := .func (.func 59) #[] #[]
theorem tall_take' (l : List TkEl) (k : Nat) (hk : k < l.length) : (l.take (k + 1)).all taskB = ((l.take k).all taskB && taskB (l.getD k (0, 0))) := by
  rw [List.take_succ_eq_append_getElem hk, List.all_append]
  simp [List.getD_eq_getElem?_getD, hk]
theorem tall_false' {l : List TkEl} (k : Nat) (hk : k < l.length) (h : taskB (l.getD k (0, 0)) = false) : l.all taskB = false := by
  rw [← Bool.not_eq_true, List.all_eq_true]
  intro hh
  have := hh (l.getD k (0, 0)) (by simp [List.getD_eq_getElem?_getD, hk])
  rw [h] at this
  cases this
set_option maxHeartbeats 2000000 in
theorem wrongTask_eq (x : TkEl) (t : Bool) (h : taskB x = t) (w : World) : Calls Try.prog 59 #[.agg #[.int .i64 x.1, .int .i64 x.2]] w fun e w' => e = .returned (.bool (!t)) ∧ Below w.heap.size w w' := by
  obtain ⟨p, q⟩ := x
  have HT : Hid ((decide (1 ≤ p ∧ p ≤ 20) && decide (0 ≤ q ∧ q ≤ 200)) = t) := h
  clear h
  by_cases h1 : p < 1
  · have HV : Hid (t = false) := by show _ = _; rw [← HT.out, decide_eq_false (p := 1 ≤ p ∧ p ≤ 20) (by omega)]; rfl
    have d1 : decide (p < 1) = true := by simpa using h1
    clear HT
    go_enter Try.func59, Try.ntmps59
    go_wp2
    go_ret
    exact ⟨by rw [HV.out]; rfl, by go_grown⟩
  have d1 : decide (p < 1) = false := by simpa using h1
  by_cases h2 : 20 < p
  · have HV : Hid (t = false) := by show _ = _; rw [← HT.out, decide_eq_false (p := 1 ≤ p ∧ p ≤ 20) (by omega)]; rfl
    have d2 : decide (20 < p) = true := by simpa using h2
    clear HT
    go_enter Try.func59, Try.ntmps59
    go_wp2
    go_ret
    exact ⟨by rw [HV.out]; rfl, by go_grown⟩
  have d2 : decide (20 < p) = false := by simpa using h2
  by_cases h3 : q < 0
  · have HV : Hid (t = false) := by show _ = _; rw [← HT.out, decide_eq_false (p := 0 ≤ q ∧ q ≤ 200) (by omega)]; simp
    have d3 : decide (q < 0) = true := by simpa using h3
    clear HT
    go_enter Try.func59, Try.ntmps59
    go_wp2
    go_ret
    exact ⟨by rw [HV.out]; rfl, by go_grown⟩
  have d3 : decide (q < 0) = false := by simpa using h3
  by_cases h4 : 200 < q
  · have HV : Hid (t = false) := by show _ = _; rw [← HT.out, decide_eq_false (p := 0 ≤ q ∧ q ≤ 200) (by omega)]; simp
    have d4 : decide (200 < q) = true := by simpa using h4
    clear HT
    go_enter Try.func59, Try.ntmps59
    go_wp2
    go_ret
    exact ⟨by rw [HV.out]; rfl, by go_grown⟩
  have d4 : decide (200 < q) = false := by simpa using h4
  have HV : Hid (t = true) := by show _ = _; rw [← HT.out, decide_eq_true (p := 1 ≤ p ∧ p ≤ 20) (by omega), decide_eq_true (p := 0 ≤ q ∧ q ≤ 200) (by omega)]; rfl
  clear HT
  go_enter Try.func59, Try.ntmps59
  go_wp2
  go_ret
  exact ⟨by rw [HV.out]; rfl, by go_grown⟩
/-- slices.IndexFunc with wrongTask: below 0 just where all are good. -/
theorem tindex_any (v : Value) (xs : List TkEl) (w : World) (hr : TkReads w v xs) :
    Calls Try.prog 88 #[v, wrongTV] w fun e w' => ∃ r : Int, e = .returned (.int .i64 r) ∧ decide (0 ≤ r) = !(xs.all taskB) ∧ Below w.heap.size w w' := by
  have HR := hid hr
  obtain ⟨a, cap, rfl, hl, _⟩ := hr
  go_enter Try.func88, Try.ntmps88
  go_wp2
  go_loopw [8] (fun i wr => ∃ k : Nat, k ≤ xs.length ∧ i = .int .i64 k ∧ (xs.take k).all taskB = true ∧ Below w.heap.size w wr) (fun i _ => xs.length - (intOf i).toNat)
  case atStart => exact ⟨0, Nat.zero_le _, rfl, rfl, Below.refl _ _⟩
  case round =>
    obtain ⟨k, hk, rfl, hall, hbel⟩ := hrel
    have HL := hid hall
    have HB := hid hbel
    clear hall hbel
    by_cases hlt : k < xs.length
    · obtain ⟨g, o, cap', e, hc⟩ := (HR.out.below HB.out).cells k hlt
      cases e
      obtain ⟨x, hx0⟩ : ∃ x, x = xs.getD k (0, 0) := ⟨_, rfl⟩
      have hck := hc k hlt
      rw [← hx0] at hck
      obtain ⟨c0, c1⟩ := hck
      obtain ⟨b, hb⟩ : ∃ b, taskB (xs.getD k (0, 0)) = b := ⟨_, rfl⟩
      have HK := hid hb
      have HKX : Hid (taskB x = b) := by rw [hx0]; exact hb
      have HS : Hid ((xs.take (k + 1)).all taskB = b) := by show _ = _; rw [tall_take' xs k hlt, HL.out, hb, Bool.true_and]
      clear hc hb hx0
      go_wp2_with fail
      refine (wrongTask_eq x b HKX.out _).mono ?_
      rintro e w2 ⟨rfl, b2⟩
      have B2 : Hid (Below w.heap.size w w2) := HB.out.trans (b2.mono HB.out.size)
      clear b2
      cases b
      · have hv : Hid (xs.all taskB = false) := tall_false' k hlt HK.out
        go_wp2
        go_ret
        exact ⟨_, rfl, by rw [hv.out]; simp, B2.out⟩
      · go_wp2
        go_roundw
        case rel => exact ⟨k + 1, by omega, by go_num, HS.out, B2.out⟩
        case measure => simp [intOf]; omega
    · have hv : Hid (xs.all taskB = true) := by show _ = _; have := HL.out; rw [List.take_of_length_le (by omega)] at this; exact this
      go_wp2
      go_ret
      exact ⟨_, rfl, by rw [hv.out]; rfl, HB.out⟩
theorem tcontains_any (v : Value) (xs : List TkEl) (t : Bool) (ht : xs.all taskB = t) (w : World) (hr : TkReads w v xs) :
    Calls Try.prog 58 #[v, wrongTV] w fun e w' => e = .returned (.bool (!t)) ∧ Below w.heap.size w w' := by
  have HR := hid hr
  have HT := hid ht
  clear hr ht
  go_enter Try.func58, Try.ntmps58
  go_wp2_with fail
  refine (tindex_any v xs _ HR.out).mono ?_
  rintro e w2 ⟨r, rfl, hd, b2⟩
  rw [HT.out] at hd
  have B2 := hid b2
  clear b2
  go_wp2
  go_ret
  exact ⟨by rw [← hd]; rfl, B2.out⟩

set_option maxHeartbeats 1000000 in
theorem igoodTasks_eq (v : Value) (xs : List TkEl) (t : Bool) (h : goodT xs = t) (w : World) (hr : TkReads w v xs) :
    Calls Try.prog 25 #[v] w fun e w' => e = .returned (.bool t) ∧ Below w.heap.size w w' := by
  have HT : Hid ((xs.all taskB && decide (xs.length ≤ 10)) = t) := h
  clear h
  have HR := hid hr
  obtain ⟨a, cap, rfl, _, _⟩ := hr
  by_cases h8 : xs.length ≤ 10
  · obtain ⟨b, hb⟩ : ∃ b, xs.all taskB = b := ⟨_, rfl⟩
    have HA : Hid (t = b) := by show _ = _; rw [← HT.out, hb]; simp [h8]
    have hd : decide ((xs.length : Int) ≤ 10) = true := by simp; omega
    have HB := hid hb
    clear hb
    go_enter Try.func25, Try.ntmps25
    go_wp2_with fail
    refine (tcontains_any _ xs b HB.out _ HR.out).mono ?_
    rintro e w2 ⟨rfl, b2⟩
    have B2 := hid b2
    clear b2
    go_wp2
    go_ret
    exact ⟨by rw [HA.out]; simp, B2.out⟩
  · have hv : Hid (t = false) := by show _ = _; rw [← HT.out]; simp [h8]
    have hd : decide ((xs.length : Int) ≤ 10) = false := by simp; omega
    go_enter Try.func25, Try.ntmps25
    go_wp2
    go_ret
    exact ⟨by rw [hv.out]; rfl, Below.refl _ _⟩
end Go.Proofs.Ytpkngcamaahhdab
