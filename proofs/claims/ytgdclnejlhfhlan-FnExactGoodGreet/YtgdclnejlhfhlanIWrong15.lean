/-
  impl's (Greet).isWrong, (Greet).isNoAck: whether a letter is none, or of numbers that were not given. Nothing old is written.
-/
import Derived.Test.YtgdclnejlhfhlanIGr1
import Derived.Deep.RegionWith
import Derived.Lib.QuietBelow
import Derived.BigQuiet
namespace Go.Proofs.Ytgdclnejlhfhlan
open Go.RowKit Go.Sort

theorem ihello_askZ (a z : Int) (hz : z = 0) (w : World) : Calls Try.prog 97 #[.agg #[.int .i64 a]] w fun e w' => e = .returned (.agg #[.int .i64 1, .int .i64 a, .int .i64 z]) ∧ Below w.heap.size w w' := by
  subst hz
  exact ihello_ask a w
set_option maxRecDepth 100000 in
set_option maxHeartbeats 8000000 in
theorem iisWrong_eq (X Y : Int) (v0 v1 v2 v3 v4 v5 v8 v9 v10 : Value) (x : HeEl) (t : Bool) (h : letB X Y x = t) (w : World) :
    Calls Try.prog 45 #[.agg #[v0, v1, v2, v3, v4, v5, .int .i64 X, .int .i64 Y, v8, v9, v10], .agg #[.int .i64 x.1, .int .i64 x.2.1, .int .i64 x.2.2]] w fun e w' => e = .returned (.bool (!t)) ∧ Below w.heap.size w w' := by
  obtain ⟨k, a, b⟩ := x
  simp only
  have PB := hid ((boxL_new w [v0, v1, v2, v3, v4, v5, .int .i64 X, .int .i64 Y, v8, v9, v10] 29).below ((Below.refl (w.heap.size + 1) (w.alloc (.cells #[v0, v1, v2, v3, v4, v5, .int .i64 X, .int .i64 Y, v8, v9, v10] 29))).alloc (by simp) (.cells #[.int .i64 k, .int .i64 a, .int .i64 b] 61)) (by omega))
  have PX := hid (boxL_new (w.alloc (.cells #[v0, v1, v2, v3, v4, v5, .int .i64 X, .int .i64 Y, v8, v9, v10] 29)) [.int .i64 k, .int .i64 a, .int .i64 b] 61)
  have hsz : (w.alloc (.cells #[v0, v1, v2, v3, v4, v5, .int .i64 X, .int .i64 Y, v8, v9, v10] 29)).heap.size = w.heap.size + 1 := by simp
  rw [hsz] at PX
  have BW : Hid (Below w.heap.size w ((w.alloc (.cells #[v0, v1, v2, v3, v4, v5, .int .i64 X, .int .i64 Y, v8, v9, v10] 29)).alloc (.cells #[.int .i64 k, .int .i64 a, .int .i64 b] 61))) := ((Below.refl _ _).alloc (Nat.le_refl _) _).alloc (by simp) _
  obtain ⟨q0, q1, q2, q3, q4, q5, q6, q7, q8, q9, q10⟩ := PB.out.eleven
  obtain ⟨p0, p1, p2⟩ := PX.out.three
  obtain ⟨W, hW⟩ : ∃ W, W = (w.alloc (.cells #[v0, v1, v2, v3, v4, v5, .int .i64 X, .int .i64 Y, v8, v9, v10] 29)).alloc (.cells #[.int .i64 k, .int .i64 a, .int .i64 b] 61) := ⟨_, rfl⟩
  rw [← hW] at PB PX BW
  have HW := hid hW
  have HT := hid h
  clear hW hsz h
  go_enter Try.func45, Try.ntmps45
  go_wp2_with fail
  rw [← HW.out]
  refine (iletterOf_eq (k, a, b) _).mono ?_
  rintro e w1 ⟨rfl, b5⟩
  have HB := hid (BW.out.trans (b5.mono BW.out.size))
  replace PB := hid (PB.out.below b5 PB.out.lt)
  replace PX := hid (PX.out.below b5 PX.out.lt)
  clear b5 q0 q1 q2 q3 q4 q5 q6 q7 q8 q9 q10 p0 p1 p2 HW
  obtain ⟨q0, q1, q2, q3, q4, q5, q6, q7, q8, q9, q10⟩ := PB.out.eleven
  obtain ⟨p0, p1, p2⟩ := PX.out.three
  by_cases h1 : k = 1
  · subst h1
    have e1 : lv (1, a, b) = .iface 93 (.agg #[.int .i64 a]) := rfl
    rw [e1]
    by_cases hb : b = 0
    · subst hb
      have HE : Hid (gvn a X = t) := by show _ = _; rw [← HT.out]; simp [letB, gv0]
      clear HT e1
      go_wp2_with fail
      go_region_with (first
        | (go_at_call 97; refine (ihello_ask a _).mono ?_; rintro e w2 ⟨rfl, b6⟩; have HB2 : Hid (Below w1.heap.size w1 w2) := (Below.refl _ _).drew.trans b6; obtain ⟨r0, r1, r2, r3, r4, r5, r6, r7, r8, r9, r10⟩ := (PB.out.below HB2.out PB.out.lt).eleven; obtain ⟨s0, s1, s2⟩ := (PX.out.below HB2.out PX.out.lt).three; clear b6)
        | (go_at_call 98; refine (iaskIsOf_eq X Y a _ _ _ _ _ _ _ _ _ t HE.out _).mono ?_; rintro e w3 ⟨rfl, b7⟩; have HB3 : Hid (Below w1.heap.size w1 w3) := HB2.out.trans (b7.mono HB2.out.size); clear b7))
      all_goals
        go_wp2
        go_ret
        exact ⟨rfl, HB.out.trans (HB3.out.mono HB.out.size)⟩
    · have HV : Hid (t = false) := by show _ = _; rw [← HT.out]; simp [letB, gv0, hb]
      obtain ⟨z0, hz0⟩ : ∃ z : Int, z = 0 := ⟨_, rfl⟩
      have z : (z0 == b) = false := by rw [hz0]; simp; omega
      have HZ := hid hz0
      clear HT e1 hb hz0
      have j0 := fun dd os => cell_regrown p0 dd os
      have j1 := fun dd os => cell_regrown p1 dd os
      have j2 := fun dd os => cell_regrown p2 dd os
      have c1 : ∀ dd os, Calls Try.prog 97 #[.agg #[.int .i64 a]] (grow (redrawn w1 dd) os) fun e w'' => e = .returned (.agg #[.int .i64 1, .int .i64 a, .int .i64 z0]) ∧ ∃ p : Regrown, w'' = grow (redrawn w1 p.d) p.os := fun dd os => Calls.regrown_of ((ihello_askZ a z0 HZ.out _).mono fun e w' h => ⟨h.1, h.2⟩)
      go_wp2_with fail
      refine wp_region_quiet_below (by kernel_rfl) (by kernel_rfl) ?_
      repeat (go_big_quiet_step (fail))
      refine BigFrame.wpQuiet_want (by rfl) fun K hK => ⟨.agg #[.int .i64 1, .int .i64 a, .int .i64 z0], fun w hw => ?_, hK _ ?_⟩
      · obtain ⟨⟨dq, osq⟩, rfl⟩ := hw
        unfold Oper.quietAt
        go_simp
        exact ⟨rfl, c1 _ _⟩
      go_simp
      repeat (go_big_quiet_step (fail))
      refine wpQuiet_nil ?_
      intro pq
      have BQ : Hid (Below w.heap.size w (grow (redrawn w1 pq.d) pq.os)) := HB.out.trans ((below_regrown w1 pq.d pq.os).mono HB.out.size)
      go_wp2
      go_ret
      exact ⟨by rw [HV.out]; rfl, BQ.out⟩
  by_cases h2 : k = 2
  · subst h2
    have e1 : lv (2, a, b) = .iface 95 (.agg #[.int .i64 a, .int .i64 b]) := rfl
    rw [e1]
    have HE : Hid ((gvn a X && gvn b Y) = t) := by show _ = _; rw [← HT.out]; simp [letB, gv0]
    clear HT e1
    go_wp2_with fail
    go_region_with (first
      | (go_at_call 99; refine (ihello_both a b _).mono ?_; rintro e w2 ⟨rfl, b6⟩; have HB2 : Hid (Below w1.heap.size w1 w2) := (Below.refl _ _).drew.trans b6; obtain ⟨r0, r1, r2, r3, r4, r5, r6, r7, r8, r9, r10⟩ := (PB.out.below HB2.out PB.out.lt).eleven; obtain ⟨s0, s1, s2⟩ := (PX.out.below HB2.out PX.out.lt).three; clear b6)
      | (go_at_call 61; refine (ipairIsOf_eq X Y a b _ _ _ _ _ _ _ _ _ t HE.out _).mono ?_; rintro e w3 ⟨rfl, b7⟩; have HB3 : Hid (Below w1.heap.size w1 w3) := HB2.out.trans (b7.mono HB2.out.size); clear b7))
    all_goals
      go_wp2
      go_ret
      exact ⟨rfl, HB.out.trans (HB3.out.mono HB.out.size)⟩
  by_cases h3 : k = 3
  · subst h3
    have e1 : lv (3, a, b) = .iface 96 (.agg #[.int .i64 a, .int .i64 b]) := rfl
    rw [e1]
    have HE : Hid ((gvn a X && gvn b Y) = t) := by show _ = _; rw [← HT.out]; simp [letB, gv0]
    clear HT e1
    go_wp2_with fail
    go_region_with (first
      | (go_at_call 81; refine (ihello_ack a b _).mono ?_; rintro e w2 ⟨rfl, b6⟩; have HB2 : Hid (Below w1.heap.size w1 w2) := (Below.refl _ _).drew.trans b6; obtain ⟨r0, r1, r2, r3, r4, r5, r6, r7, r8, r9, r10⟩ := (PB.out.below HB2.out PB.out.lt).eleven; obtain ⟨s0, s1, s2⟩ := (PX.out.below HB2.out PX.out.lt).three; clear b6)
      | (go_at_call 61; refine (ipairIsOf_eq X Y a b _ _ _ _ _ _ _ _ _ t HE.out _).mono ?_; rintro e w3 ⟨rfl, b7⟩; have HB3 : Hid (Below w1.heap.size w1 w3) := HB2.out.trans (b7.mono HB2.out.size); clear b7))
    all_goals
      go_wp2
      go_ret
      exact ⟨rfl, HB.out.trans (HB3.out.mono HB.out.size)⟩
  have e1 : lv (k, a, b) = .nilIface := by unfold lv; simp [h1, h2, h3]
  rw [e1]
  have HV : Hid (t = false) := by show _ = _; rw [← HT.out]; unfold letB; rw [decide_eq_false (by simp only; omega)]; rfl
  clear HT e1 h1 h2 h3
  go_wp2_with fail
  go_region
  go_wp2
  go_ret
  exact ⟨by rw [HV.out]; rfl, HB.out.drew⟩
set_option maxRecDepth 100000 in
set_option maxHeartbeats 8000000 in
theorem iisNoAck_eq (X Y : Int) (v0 v1 v2 v3 v4 v5 v8 v9 v10 : Value) (x : HeEl) (t : Bool) (h : ackB X Y x = t) (w : World) :
    Calls Try.prog 46 #[.agg #[v0, v1, v2, v3, v4, v5, .int .i64 X, .int .i64 Y, v8, v9, v10], .agg #[.int .i64 x.1, .int .i64 x.2.1, .int .i64 x.2.2]] w fun e w' => e = .returned (.bool (!t)) ∧ Below w.heap.size w w' := by
  obtain ⟨k, a, b⟩ := x
  simp only
  have PB := hid ((boxL_new w [v0, v1, v2, v3, v4, v5, .int .i64 X, .int .i64 Y, v8, v9, v10] 29).below ((Below.refl (w.heap.size + 1) (w.alloc (.cells #[v0, v1, v2, v3, v4, v5, .int .i64 X, .int .i64 Y, v8, v9, v10] 29))).alloc (by simp) (.cells #[.int .i64 k, .int .i64 a, .int .i64 b] 61)) (by omega))
  have BW : Hid (Below w.heap.size w ((w.alloc (.cells #[v0, v1, v2, v3, v4, v5, .int .i64 X, .int .i64 Y, v8, v9, v10] 29)).alloc (.cells #[.int .i64 k, .int .i64 a, .int .i64 b] 61))) := ((Below.refl _ _).alloc (Nat.le_refl _) _).alloc (by simp) _
  obtain ⟨q0, q1, q2, q3, q4, q5, q6, q7, q8, q9, q10⟩ := PB.out.eleven
  by_cases h3 : k = 3
  · subst h3
    have HE : Hid (letB X Y (3, a, b) = t) := by show _ = _; rw [← h]; simp [ackB]
    clear h
    go_enter Try.func46, Try.ntmps46
    go_wp2_with fail
    refine (iisWrong_eq X Y _ _ _ _ _ _ _ _ _ (3, a, b) t HE.out _).mono ?_
    rintro e w2 ⟨rfl, b6⟩
    have HB2 := hid (BW.out.trans (b6.mono BW.out.size))
    clear b6 q0 q1 q2 q3 q4 q5 q6 q7 q8 q9 q10
    go_wp2
    go_ret
    exact ⟨rfl, HB2.out⟩
  · have HV : Hid (t = false) := by show _ = _; rw [← h]; unfold ackB; rw [decide_eq_false (by simp only; exact h3)]; rfl
    have d : (k != 3) = true := by simpa using h3
    clear h h3
    go_enter Try.func46, Try.ntmps46
    go_wp2
    go_ret
    exact ⟨by rw [HV.out]; rfl, BW.out⟩
end Go.Proofs.Ytgdclnejlhfhlan
