/-
  impl's words on a greeting's numbers and on letters.
-/
import Derived.Test.YtgdclnejlhfhlanGrFns
import Derived.Test.YtgdclnejlhfhlanBoxL11
namespace Go.Proofs.Ytgdclnejlhfhlan
open Go.RowKit

set_option maxRecDepth 100000 in
theorem igaveX_eq (X n : Int) (v0 v1 v2 v3 v4 v5 v7 v8 v9 v10 : Value) (t : Bool) (h : gvn n X = t) (w : World) :
    Calls Try.prog 60 #[.agg #[v0, v1, v2, v3, v4, v5, .int .i64 X, v7, v8, v9, v10], .int .i64 n] w fun e w' => e = .returned (.bool t) ∧ Below w.heap.size w w' := by
  unfold gvn at h
  by_cases h1 : 1 ≤ n
  · have d1 : decide (n ≥ 1) = true := by rw [decide_eq_true_eq]; exact h1
    have d2 : Hid (decide (n ≤ X) = t) := by show _ = _; rw [← h]; simp [h1]
    have d3 := d2.out
    clear h h1
    go_enter Try.func60, Try.ntmps60
    go_wp2
    go_ret
    exact ⟨by first | rfl | rw [← d2.out], by go_grown⟩
  · have d1 : decide (n ≥ 1) = false := by rw [decide_eq_false_iff_not]; exact h1
    have d2 : Hid (t = false) := by show _ = _; rw [← h]; simp [h1]
    clear h h1
    go_enter Try.func60, Try.ntmps60
    go_wp2
    go_ret
    exact ⟨by rw [d2.out]; rfl, by go_grown⟩
set_option maxRecDepth 100000 in
theorem igaveY_eq (Y n : Int) (v0 v1 v2 v3 v4 v5 v6 v8 v9 v10 : Value) (t : Bool) (h : gvn n Y = t) (w : World) :
    Calls Try.prog 73 #[.agg #[v0, v1, v2, v3, v4, v5, v6, .int .i64 Y, v8, v9, v10], .int .i64 n] w fun e w' => e = .returned (.bool t) ∧ Below w.heap.size w w' := by
  unfold gvn at h
  by_cases h1 : 1 ≤ n
  · have d1 : decide (n ≥ 1) = true := by rw [decide_eq_true_eq]; exact h1
    have d2 : Hid (decide (n ≤ Y) = t) := by show _ = _; rw [← h]; simp [h1]
    have d3 := d2.out
    clear h h1
    go_enter Try.func73, Try.ntmps73
    go_wp2
    go_ret
    exact ⟨by first | rfl | rw [← d2.out], by go_grown⟩
  · have d1 : decide (n ≥ 1) = false := by rw [decide_eq_false_iff_not]; exact h1
    have d2 : Hid (t = false) := by show _ = _; rw [← h]; simp [h1]
    clear h h1
    go_enter Try.func73, Try.ntmps73
    go_wp2
    go_ret
    exact ⟨by rw [d2.out]; rfl, by go_grown⟩
set_option maxRecDepth 100000 in
theorem ipairA_eq (v0 v1 v2 v3 v4 v5 v6 v7 v8 v9 v10 : Value) (x y : Int) (hx : v2 = .int .i64 x) (hy : v5 = .int .i64 y) (w : World) :
    Calls Try.prog 56 #[.agg #[v0, v1, v2, v3, v4, v5, v6, v7, v8, v9, v10]] w fun e w' => e = .returned (.agg #[.int .i64 x, .int .i64 y]) ∧ Below w.heap.size w w' := by
  subst hx hy
  go_enter Try.func56, Try.ntmps56
  go_wp2
  exact bodyPost_ret (v := .agg #[.int .i64 x, .int .i64 y]) (by simp [results, Try.results56, go_sem]) rfl ⟨rfl, by go_grown⟩
set_option maxRecDepth 100000 in
theorem ipairB_eq (v0 v1 v2 v3 v4 v5 v6 v7 v8 v9 v10 : Value) (x y : Int) (hx : v4 = .int .i64 x) (hy : v3 = .int .i64 y) (w : World) :
    Calls Try.prog 57 #[.agg #[v0, v1, v2, v3, v4, v5, v6, v7, v8, v9, v10]] w fun e w' => e = .returned (.agg #[.int .i64 x, .int .i64 y]) ∧ Below w.heap.size w w' := by
  subst hx hy
  go_enter Try.func57, Try.ntmps57
  go_wp2
  exact bodyPost_ret (v := .agg #[.int .i64 x, .int .i64 y]) (by simp [results, Try.results57, go_sem]) rfl ⟨rfl, by go_grown⟩
set_option maxRecDepth 100000 in
theorem ihello_ask (a : Int) (w : World) : Calls Try.prog 97 #[.agg #[.int .i64 a]] w fun e w' => e = .returned (.agg #[.int .i64 1, .int .i64 a, .int .i64 0]) ∧ Below w.heap.size w w' := by
  go_enter Try.func97, Try.ntmps97
  go_wp2
  exact bodyPost_ret (v := .agg #[.int .i64 1, .int .i64 a, .int .i64 0]) (by simp [results, Try.results97, go_sem]) rfl ⟨rfl, by go_grown⟩
set_option maxRecDepth 100000 in
theorem ihello_both (a b : Int) (w : World) : Calls Try.prog 99 #[.agg #[.int .i64 a, .int .i64 b]] w fun e w' => e = .returned (.agg #[.int .i64 2, .int .i64 a, .int .i64 b]) ∧ Below w.heap.size w w' := by
  go_enter Try.func99, Try.ntmps99
  go_wp2
  exact bodyPost_ret (v := .agg #[.int .i64 2, .int .i64 a, .int .i64 b]) (by simp [results, Try.results99, go_sem]) rfl ⟨rfl, by go_grown⟩
set_option maxRecDepth 100000 in
theorem ihello_ack (a b : Int) (w : World) : Calls Try.prog 81 #[.agg #[.int .i64 a, .int .i64 b]] w fun e w' => e = .returned (.agg #[.int .i64 3, .int .i64 a, .int .i64 b]) ∧ Below w.heap.size w w' := by
  go_enter Try.func81, Try.ntmps81
  go_wp2
  exact bodyPost_ret (v := .agg #[.int .i64 3, .int .i64 a, .int .i64 b]) (by simp [results, Try.results81, go_sem]) rfl ⟨rfl, by go_grown⟩
/-- A letter as a value behind an interface. -/
def lv (x : HeEl) : Value := if x.1 = 1 then .iface 93 (.agg #[.int .i64 x.2.1]) else if x.1 = 2 then .iface 95 (.agg #[.int .i64 x.2.1, .int .i64 x.2.2]) else if x.1 = 3 then .iface 96 (.agg #[.int .i64 x.2.1, .int .i64 x.2.2]) else .nilIface
set_option maxRecDepth 100000 in
theorem iletterOf_eq (x : HeEl) (w : World) :
    Calls Try.prog 63 #[.agg #[.int .i64 x.1, .int .i64 x.2.1, .int .i64 x.2.2]] w fun e w' => e = .returned (lv x) ∧ Below w.heap.size w w' := by
  obtain ⟨k, a, b⟩ := x
  unfold lv
  simp only
  by_cases h1 : k = 1
  · subst h1
    go_enter Try.func63, Try.ntmps63
    go_wp2
    go_ret
    exact ⟨rfl, by go_grown⟩
  by_cases h2 : k = 2
  · subst h2
    go_enter Try.func63, Try.ntmps63
    go_wp2
    go_ret
    exact ⟨rfl, by go_grown⟩
  by_cases h3 : k = 3
  · subst h3
    go_enter Try.func63, Try.ntmps63
    go_wp2
    go_ret
    exact ⟨rfl, by go_grown⟩
  rw [if_neg h1, if_neg h2, if_neg h3]
  have d1 : (k == 1) = false := by simpa using h1
  have d2 : (k == 2) = false := by simpa using h2
  have d3 : (k == 3) = false := by simpa using h3
  clear h1 h2 h3
  go_enter Try.func63, Try.ntmps63
  go_wp2
  go_ret
  exact ⟨rfl, by go_grown⟩
set_option maxRecDepth 100000 in
set_option maxHeartbeats 4000000 in
theorem ipairIsOf_eq (X Y a b : Int) (v0 v1 v2 v3 v4 v5 v8 v9 v10 : Value) (t : Bool) (h : (gvn a X && gvn b Y) = t) (w : World) :
    Calls Try.prog 61 #[.agg #[.int .i64 a, .int .i64 b], .agg #[v0, v1, v2, v3, v4, v5, .int .i64 X, .int .i64 Y, v8, v9, v10]] w fun e w' => e = .returned (.bool t) ∧ Below w.heap.size w w' := by
  obtain ⟨b1, e1⟩ : ∃ c, gvn a X = c := ⟨_, rfl⟩
  obtain ⟨b2, e2⟩ : ∃ c, gvn b Y = c := ⟨_, rfl⟩
  rw [e1, e2] at h
  have HT := hid h
  have E1 := hid e1
  have E2 := hid e2
  clear h e1 e2
  have PB := hid (boxL_new (w.alloc (.cells #[.int .i64 a, .int .i64 b] 77)) [v0, v1, v2, v3, v4, v5, .int .i64 X, .int .i64 Y, v8, v9, v10] 29)
  have PA := hid ((boxL_new w [.int .i64 a, .int .i64 b] 77).below ((Below.refl (w.heap.size + 1) (w.alloc (.cells #[.int .i64 a, .int .i64 b] 77))).alloc (by simp) (.cells #[v0, v1, v2, v3, v4, v5, .int .i64 X, .int .i64 Y, v8, v9, v10] 29)) (by omega))
  have hsz : (w.alloc (.cells #[.int .i64 a, .int .i64 b] 77)).heap.size = w.heap.size + 1 := by simp
  rw [hsz] at PB
  obtain ⟨q0, q1, q2, q3, q4, q5, q6, q7, q8, q9, q10⟩ := PB.out.eleven
  obtain ⟨p0, p1⟩ := PA.out.two
  have BW : Hid (Below w.heap.size w ((w.alloc (.cells #[.int .i64 a, .int .i64 b] 77)).alloc (.cells #[v0, v1, v2, v3, v4, v5, .int .i64 X, .int .i64 Y, v8, v9, v10] 29))) := ((Below.refl _ _).alloc (Nat.le_refl _) _).alloc (by simp) _
  obtain ⟨W, hW⟩ : ∃ W, W = (w.alloc (.cells #[.int .i64 a, .int .i64 b] 77)).alloc (.cells #[v0, v1, v2, v3, v4, v5, .int .i64 X, .int .i64 Y, v8, v9, v10] 29) := ⟨_, rfl⟩
  rw [← hW] at PB PA BW
  have HW := hid hW
  clear hW hsz
  go_enter Try.func61, Try.ntmps61
  go_wp2_with fail
  rw [← HW.out]
  refine (igaveX_eq X a _ _ _ _ _ _ _ _ _ _ b1 E1.out _).mono ?_
  rintro e w1 ⟨rfl, b5⟩
  have HB5 := hid (BW.out.trans (b5.mono BW.out.size))
  replace PB := hid (PB.out.below b5 PB.out.lt)
  replace PA := hid (PA.out.below b5 PA.out.lt)
  clear b5 q0 q1 q2 q3 q4 q5 q6 q7 q8 q9 q10 p0 p1
  obtain ⟨q0, q1, q2, q3, q4, q5, q6, q7, q8, q9, q10⟩ := PB.out.eleven
  obtain ⟨p0, p1⟩ := PA.out.two
  cases b1
  · have HV : Hid (t = false) := HT.out.symm
    go_wp2
    go_ret
    exact ⟨by rw [HV.out]; rfl, HB5.out⟩
  go_wp2_with fail
  refine (igaveY_eq Y b _ _ _ _ _ _ _ _ _ _ b2 E2.out _).mono ?_
  rintro e w2 ⟨rfl, b6⟩
  have HB6 := hid (HB5.out.trans (b6.mono HB5.out.size))
  clear b6 q0 q1 q2 q3 q4 q5 q6 q7 q8 q9 q10 p0 p1
  go_wp2
  go_ret
  exact ⟨by rw [← HT.out]; rfl, HB6.out⟩
set_option maxRecDepth 100000 in
set_option maxHeartbeats 4000000 in
theorem iaskIsOf_eq (X Y a : Int) (v0 v1 v2 v3 v4 v5 v8 v9 v10 : Value) (t : Bool) (h : gvn a X = t) (w : World) :
    Calls Try.prog 98 #[.agg #[.int .i64 a], .agg #[v0, v1, v2, v3, v4, v5, .int .i64 X, .int .i64 Y, v8, v9, v10]] w fun e w' => e = .returned (.bool t) ∧ Below w.heap.size w w' := by
  have E1 := hid h
  clear h
  have BW : Hid (Below w.heap.size w ((w.alloc (.cells #[.int .i64 a] 93)).alloc (.cells #[v0, v1, v2, v3, v4, v5, .int .i64 X, .int .i64 Y, v8, v9, v10] 29))) := ((Below.refl _ _).alloc (Nat.le_refl _) _).alloc (by simp) _
  go_enter Try.func98, Try.ntmps98
  go_wp2_with fail
  refine (igaveX_eq X a _ _ _ _ _ _ _ _ _ _ t E1.out _).mono ?_
  rintro e w1 ⟨rfl, b5⟩
  have HB5 := hid (BW.out.trans (b5.mono BW.out.size))
  clear b5
  go_wp2
  go_ret
  exact ⟨rfl, HB5.out⟩
end Go.Proofs.Ytgdclnejlhfhlan
