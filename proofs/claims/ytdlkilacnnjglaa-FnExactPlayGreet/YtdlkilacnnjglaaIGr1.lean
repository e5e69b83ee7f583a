/-
  impl's words on a greeting's numbers and on letters.
  impl's (Greet).isWrong, (Greet).isNoAck: whether a letter is none, or of numbers that were not given. Nothing old is written.
-/
import Derived.Test.YtdlkilacnnjglaaQSet
import Derived.Test.YtdlkilacnnjglaaInts
import Derived.Deep.RegionWith
import Derived.Lib.QuietBelow
import Derived.BigQuiet
namespace Go.Proofs.Ytdlkilacnnjglaa
open Go.RowKit

set_option maxRecDepth 100000 in
theorem igaveX_eq (X n : Int) (v0 v1 v2 v3 v4 v5 v7 v8 v9 v10 : Value) (t : Bool) (h : gvn n X = t) (w : World) :
    Calls Try.prog 118 #[.agg #[v0, v1, v2, v3, v4, v5, .int .i64 X, v7, v8, v9, v10], .int .i64 n] w fun e w' => e = .returned (.bool t) ∧ Below w.heap.size w w' := by
  unfold gvn at h
  by_cases h1 : 1 ≤ n
  · have d1 : decide (n ≥ 1) = true := by rw [decide_eq_true_eq]; exact h1
    have d2 : Hid (decide (n ≤ X) = t) := by show _ = _; rw [← h]; simp [h1]
    have d3 := d2.out
    clear h h1
    go_enter Try.func118, Try.ntmps118
    go_wp2
    go_ret
    exact ⟨by first | rfl | rw [← d2.out], by go_grown⟩
  · have d1 : decide (n ≥ 1) = false := by rw [decide_eq_false_iff_not]; exact h1
    have d2 : Hid (t = false) := by show _ = _; rw [← h]; simp [h1]
    clear h h1
    go_enter Try.func118, Try.ntmps118
    go_wp2
    go_ret
    exact ⟨by rw [d2.out]; rfl, by go_grown⟩
set_option maxRecDepth 100000 in
theorem igaveY_eq (Y n : Int) (v0 v1 v2 v3 v4 v5 v6 v8 v9 v10 : Value) (t : Bool) (h : gvn n Y = t) (w : World) :
    Calls Try.prog 127 #[.agg #[v0, v1, v2, v3, v4, v5, v6, .int .i64 Y, v8, v9, v10], .int .i64 n] w fun e w' => e = .returned (.bool t) ∧ Below w.heap.size w w' := by
  unfold gvn at h
  by_cases h1 : 1 ≤ n
  · have d1 : decide (n ≥ 1) = true := by rw [decide_eq_true_eq]; exact h1
    have d2 : Hid (decide (n ≤ Y) = t) := by show _ = _; rw [← h]; simp [h1]
    have d3 := d2.out
    clear h h1
    go_enter Try.func127, Try.ntmps127
    go_wp2
    go_ret
    exact ⟨by first | rfl | rw [← d2.out], by go_grown⟩
  · have d1 : decide (n ≥ 1) = false := by rw [decide_eq_false_iff_not]; exact h1
    have d2 : Hid (t = false) := by show _ = _; rw [← h]; simp [h1]
    clear h h1
    go_enter Try.func127, Try.ntmps127
    go_wp2
    go_ret
    exact ⟨by rw [d2.out]; rfl, by go_grown⟩
set_option maxRecDepth 100000 in
theorem ipairA_eq (v0 v1 v2 v3 v4 v5 v6 v7 v8 v9 v10 : Value) (x y : Int) (hx : v2 = .int .i64 x) (hy : v5 = .int .i64 y) (w : World) :
    Calls Try.prog 117 #[.agg #[v0, v1, v2, v3, v4, v5, v6, v7, v8, v9, v10]] w fun e w' => e = .returned (.agg #[.int .i64 x, .int .i64 y]) ∧ Below w.heap.size w w' := by
  subst hx hy
  go_enter Try.func117, Try.ntmps117
  go_wp2
  exact bodyPost_ret (v := .agg #[.int .i64 x, .int .i64 y]) (by simp [results, Try.results117, go_sem]) rfl ⟨rfl, by go_grown⟩
set_option maxRecDepth 100000 in
theorem ipairB_eq (v0 v1 v2 v3 v4 v5 v6 v7 v8 v9 v10 : Value) (x y : Int) (hx : v4 = .int .i64 x) (hy : v3 = .int .i64 y) (w : World) :
    Calls Try.prog 120 #[.agg #[v0, v1, v2, v3, v4, v5, v6, v7, v8, v9, v10]] w fun e w' => e = .returned (.agg #[.int .i64 x, .int .i64 y]) ∧ Below w.heap.size w w' := by
  subst hx hy
  go_enter Try.func120, Try.ntmps120
  go_wp2
  exact bodyPost_ret (v := .agg #[.int .i64 x, .int .i64 y]) (by simp [results, Try.results120, go_sem]) rfl ⟨rfl, by go_grown⟩
set_option maxRecDepth 100000 in
theorem ihello_ask (a : Int) (w : World) : Calls Try.prog 149 #[.agg #[.int .i64 a]] w fun e w' => e = .returned (.agg #[.int .i64 1, .int .i64 a, .int .i64 0]) ∧ Below w.heap.size w w' := by
  go_enter Try.func149, Try.ntmps149
  go_wp2
  exact bodyPost_ret (v := .agg #[.int .i64 1, .int .i64 a, .int .i64 0]) (by simp [results, Try.results149, go_sem]) rfl ⟨rfl, by go_grown⟩
set_option maxRecDepth 100000 in
theorem ihello_both (a b : Int) (w : World) : Calls Try.prog 151 #[.agg #[.int .i64 a, .int .i64 b]] w fun e w' => e = .returned (.agg #[.int .i64 2, .int .i64 a, .int .i64 b]) ∧ Below w.heap.size w w' := by
  go_enter Try.func151, Try.ntmps151
  go_wp2
  exact bodyPost_ret (v := .agg #[.int .i64 2, .int .i64 a, .int .i64 b]) (by simp [results, Try.results151, go_sem]) rfl ⟨rfl, by go_grown⟩
set_option maxRecDepth 100000 in
theorem ihello_ack (a b : Int) (w : World) : Calls Try.prog 131 #[.agg #[.int .i64 a, .int .i64 b]] w fun e w' => e = .returned (.agg #[.int .i64 3, .int .i64 a, .int .i64 b]) ∧ Below w.heap.size w w' := by
  go_enter Try.func131, Try.ntmps131
  go_wp2
  exact bodyPost_ret (v := .agg #[.int .i64 3, .int .i64 a, .int .i64 b]) (by simp [results, Try.results131, go_sem]) rfl ⟨rfl, by go_grown⟩
/-- A letter as a value behind an interface. -/
def lv (x : HeEl) : Value := if x.1 = 1 then .iface 146 (.agg #[.int .i64 x.2.1]) else if x.1 = 2 then .iface 152 (.agg #[.int .i64 x.2.1, .int .i64 x.2.2]) else if x.1 = 3 then .iface 153 (.agg #[.int .i64 x.2.1, .int .i64 x.2.2]) else .nilIface
set_option maxRecDepth 100000 in
theorem iletterOf_eq (x : HeEl) (w : World) :
    Calls Try.prog 122 #[.agg #[.int .i64 x.1, .int .i64 x.2.1, .int .i64 x.2.2]] w fun e w' => e = .returned (lv x) ∧ Below w.heap.size w w' := by
  obtain ⟨k, a, b⟩ := x
  unfold lv
  simp only
  by_cases h1 : k = 1
  · subst h1
    go_enter Try.func122, Try.ntmps122
    go_wp2
    go_ret
    exact ⟨rfl, by go_grown⟩
  by_cases h2 : k = 2
  · subst h2
    go_enter Try.func122, Try.ntmps122
    go_wp2
    go_ret
    exact ⟨rfl, by go_grown⟩
  by_cases h3 : k = 3
  · subst h3
    go_enter Try.func122, Try.ntmps122
    go_wp2
    go_ret
    exact ⟨rfl, by go_grown⟩
  rw [if_neg h1, if_neg h2, if_neg h3]
  have d1 : (k == 1) = false := by simpa using h1
  have d2 : (k == 2) = false := by simpa using h2
  have d3 : (k == 3) = false := by simpa using h3
  clear h1 h2 h3
  go_enter Try.func122, Try.ntmps122
  go_wp2
  go_ret
  exact ⟨rfl, by go_grown⟩
set_option maxRecDepth 100000 in
set_option maxHeartbeats 4000000 in
theorem ipairIsOf_eq (X Y a b : Int) (v0 v1 v2 v3 v4 v5 v8 v9 v10 : Value) (t : Bool) (h : (gvn a X && gvn b Y) = t) (w : World) :
    Calls Try.prog 119 #[.agg #[.int .i64 a, .int .i64 b], .agg #[v0, v1, v2, v3, v4, v5, .int .i64 X, .int .i64 Y, v8, v9, v10]] w fun e w' => e = .returned (.bool t) ∧ Below w.heap.size w w' := by
  obtain ⟨b1, e1⟩ : ∃ c, gvn a X = c := ⟨_, rfl⟩
  obtain ⟨b2, e2⟩ : ∃ c, gvn b Y = c := ⟨_, rfl⟩
  rw [e1, e2] at h
  have HT := hid h
  have E1 := hid e1
  have E2 := hid e2
  clear h e1 e2
  have PB := hid (boxL_new (w.alloc (.cells #[.int .i64 a, .int .i64 b] 137)) [v0, v1, v2, v3, v4, v5, .int .i64 X, .int .i64 Y, v8, v9, v10] 49)
  have PA := hid ((boxL_new w [.int .i64 a, .int .i64 b] 137).below ((Below.refl (w.heap.size + 1) (w.alloc (.cells #[.int .i64 a, .int .i64 b] 137))).alloc (by simp) (.cells #[v0, v1, v2, v3, v4, v5, .int .i64 X, .int .i64 Y, v8, v9, v10] 49)) (by omega))
  have hsz : (w.alloc (.cells #[.int .i64 a, .int .i64 b] 137)).heap.size = w.heap.size + 1 := by simp
  rw [hsz] at PB
  obtain ⟨q0, q1, q2, q3, q4, q5, q6, q7, q8, q9, q10⟩ := PB.out.eleven
  obtain ⟨p0, p1⟩ := PA.out.two
  have BW : Hid (Below w.heap.size w ((w.alloc (.cells #[.int .i64 a, .int .i64 b] 137)).alloc (.cells #[v0, v1, v2, v3, v4, v5, .int .i64 X, .int .i64 Y, v8, v9, v10] 49))) := ((Below.refl _ _).alloc (Nat.le_refl _) _).alloc (by simp) _
  obtain ⟨W, hW⟩ : ∃ W, W = (w.alloc (.cells #[.int .i64 a, .int .i64 b] 137)).alloc (.cells #[v0, v1, v2, v3, v4, v5, .int .i64 X, .int .i64 Y, v8, v9, v10] 49) := ⟨_, rfl⟩
  rw [← hW] at PB PA BW
  have HW := hid hW
  clear hW hsz
  go_enter Try.func119, Try.ntmps119
  go_wp2_with fail
  rw [← HW.out]
  refine (igaveX_eq X a _ _ _ _ _ _ _ _ _ _ b1 E1.out _).mono ?_
  rintro e w1 ⟨rfl, b5⟩
  have HB5 := hid (BW.out.trans (b5.mono BW.out.size))
  replace PB := hid (PB.out.below b5 PB.out.lt)
  replace PA := hid (PA.out.below b5 PA.out.lt)
  clear b5 q0 q1 q2 q3 q4 q5 q6 q7 q8 q9 q10 p0 p1
  obtain ⟨q0, q1, q2, q3, q4, q5, q6, q7, q8, q9, q10⟩ := PB.out.eleven
  obtain ⟨p0, p1⟩ := PA.out.two
  cases b1
  · have HV : Hid (t = false) := HT.out.symm
    go_wp2
    go_ret
    exact ⟨by rw [HV.out]; rfl, HB5.out⟩
  go_wp2_with fail
  refine (igaveY_eq Y b _ _ _ _ _ _ _ _ _ _ b2 E2.out _).mono ?_
  rintro e w2 ⟨rfl, b6⟩
  have HB6 := hid (HB5.out.trans (b6.mono HB5.out.size))
  clear b6 q0 q1 q2 q3 q4 q5 q6 q7 q8 q9 q10 p0 p1
  go_wp2
  go_ret
  exact ⟨by rw [← HT.out]; rfl, HB6.out⟩
set_option maxRecDepth 100000 in
set_option maxHeartbeats 4000000 in
theorem iaskIsOf_eq (X Y a : Int) (v0 v1 v2 v3 v4 v5 v8 v9 v10 : Value) (t : Bool) (h : gvn a X = t) (w : World) :
    Calls Try.prog 150 #[.agg #[.int .i64 a], .agg #[v0, v1, v2, v3, v4, v5, .int .i64 X, .int .i64 Y, v8, v9, v10]] w fun e w' => e = .returned (.bool t) ∧ Below w.heap.size w w' := by
  have E1 := hid h
  clear h
  have BW : Hid (Below w.heap.size w ((w.alloc (.cells #[.int .i64 a] 146)).alloc (.cells #[v0, v1, v2, v3, v4, v5, .int .i64 X, .int .i64 Y, v8, v9, v10] 49))) := ((Below.refl _ _).alloc (Nat.le_refl _) _).alloc (by simp) _
  go_enter Try.func150, Try.ntmps150
  go_wp2_with fail
  refine (igaveX_eq X a _ _ _ _ _ _ _ _ _ _ t E1.out _).mono ?_
  rintro e w1 ⟨rfl, b5⟩
  have HB5 := hid (BW.out.trans (b5.mono BW.out.size))
  clear b5
  go_wp2
  go_ret
  exact ⟨rfl, HB5.out⟩
end Go.Proofs.Ytdlkilacnnjglaa
namespace Go.Proofs.Ytdlkilacnnjglaa
open Go.RowKit Go.Sort

theorem ihello_askZ (a z : Int) (hz : z = 0) (w : World) : Calls Try.prog 149 #[.agg #[.int .i64 a]] w fun e w' => e = .returned (.agg #[.int .i64 1, .int .i64 a, .int .i64 z]) ∧ Below w.heap.size w w' := by
  subst hz
  exact ihello_ask a w
set_option maxRecDepth 100000 in
set_option maxHeartbeats 8000000 in
theorem iisWrong_eq (X Y : Int) (v0 v1 v2 v3 v4 v5 v8 v9 v10 : Value) (x : HeEl) (t : Bool) (h : letB X Y x = t) (w : World) :
    Calls Try.prog 107 #[.agg #[v0, v1, v2, v3, v4, v5, .int .i64 X, .int .i64 Y, v8, v9, v10], .agg #[.int .i64 x.1, .int .i64 x.2.1, .int .i64 x.2.2]] w fun e w' => e = .returned (.bool (!t)) ∧ Below w.heap.size w w' := by
  obtain ⟨k, a, b⟩ := x
  simp only
  have PB := hid ((boxL_new w [v0, v1, v2, v3, v4, v5, .int .i64 X, .int .i64 Y, v8, v9, v10] 49).below ((Below.refl (w.heap.size + 1) (w.alloc (.cells #[v0, v1, v2, v3, v4, v5, .int .i64 X, .int .i64 Y, v8, v9, v10] 49))).alloc (by simp) (.cells #[.int .i64 k, .int .i64 a, .int .i64 b] 116)) (by omega))
  have PX := hid (boxL_new (w.alloc (.cells #[v0, v1, v2, v3, v4, v5, .int .i64 X, .int .i64 Y, v8, v9, v10] 49)) [.int .i64 k, .int .i64 a, .int .i64 b] 116)
  have hsz : (w.alloc (.cells #[v0, v1, v2, v3, v4, v5, .int .i64 X, .int .i64 Y, v8, v9, v10] 49)).heap.size = w.heap.size + 1 := by simp
  rw [hsz] at PX
  have BW : Hid (Below w.heap.size w ((w.alloc (.cells #[v0, v1, v2, v3, v4, v5, .int .i64 X, .int .i64 Y, v8, v9, v10] 49)).alloc (.cells #[.int .i64 k, .int .i64 a, .int .i64 b] 116))) := ((Below.refl _ _).alloc (Nat.le_refl _) _).alloc (by simp) _
  obtain ⟨q0, q1, q2, q3, q4, q5, q6, q7, q8, q9, q10⟩ := PB.out.eleven
  obtain ⟨p0, p1, p2⟩ := PX.out.three
  obtain ⟨W, hW⟩ : ∃ W, W = (w.alloc (.cells #[v0, v1, v2, v3, v4, v5, .int .i64 X, .int .i64 Y, v8, v9, v10] 49)).alloc (.cells #[.int .i64 k, .int .i64 a, .int .i64 b] 116) := ⟨_, rfl⟩
  rw [← hW] at PB PX BW
  have HW := hid hW
  have HT := hid h
  clear hW hsz h
  go_enter Try.func107, Try.ntmps107
  go_wp2_with fail
  rw [← HW.out]
  refine (iletterOf_eq (k, a, b) _).mono ?_
  rintro e w1 ⟨rfl, b5⟩
  have HB := hid (BW.out.trans (b5.mono BW.out.size))
  replace PB := hid (PB.out.below b5 PB.out.lt)
  replace PX := hid (PX.out.below b5 PX.out.lt)
  clear b5 q0 q1 q2 q3 q4 q5 q6 q7 q8 q9 q10 p0 p1 p2 HW
  obtain ⟨q0, q1, q2, q3, q4, q5, q6, q7, q8, q9, q10⟩ := PB.out.eleven
  obtain ⟨p0, p1, p2⟩ := PX.out.three
  by_cases h1 : k = 1
  · subst h1
    have e1 : lv (1, a, b) = .iface 146 (.agg #[.int .i64 a]) := rfl
    rw [e1]
    by_cases hb : b = 0
    · subst hb
      have HE : Hid (gvn a X = t) := by show _ = _; rw [← HT.out]; simp [letB, gv0]
      clear HT e1
      go_wp2_with fail
      go_region_with (first
        | (go_at_call 149; refine (ihello_ask a _).mono ?_; rintro e w2 ⟨rfl, b6⟩; have HB2 : Hid (Below w1.heap.size w1 w2) := (Below.refl _ _).drew.trans b6; obtain ⟨r0, r1, r2, r3, r4, r5, r6, r7, r8, r9, r10⟩ := (PB.out.below HB2.out PB.out.lt).eleven; obtain ⟨s0, s1, s2⟩ := (PX.out.below HB2.out PX.out.lt).three; clear b6)
        | (go_at_call 150; refine (iaskIsOf_eq X Y a _ _ _ _ _ _ _ _ _ t HE.out _).mono ?_; rintro e w3 ⟨rfl, b7⟩; have HB3 : Hid (Below w1.heap.size w1 w3) := HB2.out.trans (b7.mono HB2.out.size); clear b7))
      all_goals
        go_wp2
        go_ret
        exact ⟨rfl, HB.out.trans (HB3.out.mono HB.out.size)⟩
    · have HV : Hid (t = false) := by show _ = _; rw [← HT.out]; simp [letB, gv0, hb]
      obtain ⟨z0, hz0⟩ : ∃ z : Int, z = 0 := ⟨_, rfl⟩
      have z : (z0 == b) = false := by rw [hz0]; simp; omega
      have HZ := hid hz0
      clear HT e1 hb hz0
      have j0 := fun dd os => cell_regrown p0 dd os
      have j1 := fun dd os => cell_regrown p1 dd os
      have j2 := fun dd os => cell_regrown p2 dd os
      have c1 : ∀ dd os, Calls Try.prog 149 #[.agg #[.int .i64 a]] (grow (redrawn w1 dd) os) fun e w'' => e = .returned (.agg #[.int .i64 1, .int .i64 a, .int .i64 z0]) ∧ ∃ p : Regrown, w'' = grow (redrawn w1 p.d) p.os := fun dd os => Calls.regrown_of ((ihello_askZ a z0 HZ.out _).mono fun e w' h => ⟨h.1, h.2⟩)
      go_wp2_with fail
      refine wp_region_quiet_below (by kernel_rfl) (by kernel_rfl) ?_
      repeat (go_big_quiet_step (fail))
      refine BigFrame.wpQuiet_want (by rfl) fun K hK => ⟨.agg #[.int .i64 1, .int .i64 a, .int .i64 z0], fun w hw => ?_, hK _ ?_⟩
      · obtain ⟨⟨dq, osq⟩, rfl⟩ := hw
        unfold Oper.quietAt
        go_simp
        exact ⟨rfl, c1 _ _⟩
      go_simp
      repeat (go_big_quiet_step (fail))
      refine wpQuiet_nil ?_
      intro pq
      have BQ : Hid (Below w.heap.size w (grow (redrawn w1 pq.d) pq.os)) := HB.out.trans ((below_regrown w1 pq.d pq.os).mono HB.out.size)
      go_wp2
      go_ret
      exact ⟨by rw [HV.out]; rfl, BQ.out⟩
  by_cases h2 : k = 2
  · subst h2
    have e1 : lv (2, a, b) = .iface 152 (.agg #[.int .i64 a, .int .i64 b]) := rfl
    rw [e1]
    have HE : Hid ((gvn a X && gvn b Y) = t) := by show _ = _; rw [← HT.out]; simp [letB, gv0]
    clear HT e1
    go_wp2_with fail
    go_region_with (first
      | (go_at_call 151; refine (ihello_both a b _).mono ?_; rintro e w2 ⟨rfl, b6⟩; have HB2 : Hid (Below w1.heap.size w1 w2) := (Below.refl _ _).drew.trans b6; obtain ⟨r0, r1, r2, r3, r4, r5, r6, r7, r8, r9, r10⟩ := (PB.out.below HB2.out PB.out.lt).eleven; obtain ⟨s0, s1, s2⟩ := (PX.out.below HB2.out PX.out.lt).three; clear b6)
      | (go_at_call 119; refine (ipairIsOf_eq X Y a b _ _ _ _ _ _ _ _ _ t HE.out _).mono ?_; rintro e w3 ⟨rfl, b7⟩; have HB3 : Hid (Below w1.heap.size w1 w3) := HB2.out.trans (b7.mono HB2.out.size); clear b7))
    all_goals
      go_wp2
      go_ret
      exact ⟨rfl, HB.out.trans (HB3.out.mono HB.out.size)⟩
  by_cases h3 : k = 3
  · subst h3
    have e1 : lv (3, a, b) = .iface 153 (.agg #[.int .i64 a, .int .i64 b]) := rfl
    rw [e1]
    have HE : Hid ((gvn a X && gvn b Y) = t) := by show _ = _; rw [← HT.out]; simp [letB, gv0]
    clear HT e1
    go_wp2_with fail
    go_region_with (first
      | (go_at_call 131; refine (ihello_ack a b _).mono ?_; rintro e w2 ⟨rfl, b6⟩; have HB2 : Hid (Below w1.heap.size w1 w2) := (Below.refl _ _).drew.trans b6; obtain ⟨r0, r1, r2, r3, r4, r5, r6, r7, r8, r9, r10⟩ := (PB.out.below HB2.out PB.out.lt).eleven; obtain ⟨s0, s1, s2⟩ := (PX.out.below HB2.out PX.out.lt).three; clear b6)
      | (go_at_call 119; refine (ipairIsOf_eq X Y a b _ _ _ _ _ _ _ _ _ t HE.out _).mono ?_; rintro e w3 ⟨rfl, b7⟩; have HB3 : Hid (Below w1.heap.size w1 w3) := HB2.out.trans (b7.mono HB2.out.size); clear b7))
    all_goals
      go_wp2
      go_ret
      exact ⟨rfl, HB.out.trans (HB3.out.mono HB.out.size)⟩
  have e1 : lv (k, a, b) = .nilIface := by unfold lv; simp [h1, h2, h3]
  rw [e1]
  have HV : Hid (t = false) := by show _ = _; rw [← HT.out]; unfold letB; rw [decide_eq_false (by simp only; omega)]; rfl
  clear HT e1 h1 h2 h3
  go_wp2_with fail
  go_region
  go_wp2
  go_ret
  exact ⟨by rw [HV.out]; rfl, HB.out.drew⟩
set_option maxRecDepth 100000 in
set_option maxHeartbeats 8000000 in
theorem iisNoAck_eq (X Y : Int) (v0 v1 v2 v3 v4 v5 v8 v9 v10 : Value) (x : HeEl) (t : Bool) (h : ackB X Y x = t) (w : World) :
    Calls Try.prog 108 #[.agg #[v0, v1, v2, v3, v4, v5, .int .i64 X, .int .i64 Y, v8, v9, v10], .agg #[.int .i64 x.1, .int .i64 x.2.1, .int .i64 x.2.2]] w fun e w' => e = .returned (.bool (!t)) ∧ Below w.heap.size w w' := by
  obtain ⟨k, a, b⟩ := x
  simp only
  have PB := hid ((boxL_new w [v0, v1, v2, v3, v4, v5, .int .i64 X, .int .i64 Y, v8, v9, v10] 49).below ((Below.refl (w.heap.size + 1) (w.alloc (.cells #[v0, v1, v2, v3, v4, v5, .int .i64 X, .int .i64 Y, v8, v9, v10] 49))).alloc (by simp) (.cells #[.int .i64 k, .int .i64 a, .int .i64 b] 116)) (by omega))
  have BW : Hid (Below w.heap.size w ((w.alloc (.cells #[v0, v1, v2, v3, v4, v5, .int .i64 X, .int .i64 Y, v8, v9, v10] 49)).alloc (.cells #[.int .i64 k, .int .i64 a, .int .i64 b] 116))) := ((Below.refl _ _).alloc (Nat.le_refl _) _).alloc (by simp) _
  obtain ⟨q0, q1, q2, q3, q4, q5, q6, q7, q8, q9, q10⟩ := PB.out.eleven
  by_cases h3 : k = 3
  · subst h3
    have HE : Hid (letB X Y (3, a, b) = t) := by show _ = _; rw [← h]; simp [ackB]
    clear h
    go_enter Try.func108, Try.ntmps108
    go_wp2_with fail
    refine (iisWrong_eq X Y _ _ _ _ _ _ _ _ _ (3, a, b) t HE.out _).mono ?_
    rintro e w2 ⟨rfl, b6⟩
    have HB2 := hid (BW.out.trans (b6.mono BW.out.size))
    clear b6 q0 q1 q2 q3 q4 q5 q6 q7 q8 q9 q10
    go_wp2
    go_ret
    exact ⟨rfl, HB2.out⟩
  · have HV : Hid (t = false) := by show _ = _; rw [← h]; unfold ackB; rw [decide_eq_false (by simp only; exact h3)]; rfl
    have d : (k != 3) = true := by simpa using h3
    clear h h3
    go_enter Try.func108, Try.ntmps108
    go_wp2
    go_ret
    exact ⟨by rw [HV.out]; rfl, BW.out⟩
end Go.Proofs.Ytdlkilacnnjglaa
