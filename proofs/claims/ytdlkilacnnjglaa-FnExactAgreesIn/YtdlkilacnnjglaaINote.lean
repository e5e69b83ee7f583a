/-
  impl's words on slips: what a slip has to say, and whether it is of a court. Nothing old is written.
-/
import Derived.Test.YtdlkilacnnjglaaCoFns
import Derived.Test.YtdlkilacnnjglaaBoxL
import Derived.Deep.RegionWith
import Derived.Deep.DeepCutAuto
import Derived.Lib.QuietBelow
import Derived.BigQuiet
namespace Go.Proofs.Ytdlkilacnnjglaa
open Go.RowKit Go.Sort

/-- What a slip has to say, as a value behind an interface. -/
def nv (x : SlEl) : Value :=
  if x.1 = 1 ∧ x.2.2 = 0 then .iface 126 (.agg #[.int .i64 x.2.1, .int .i64 1])
  else if x.1 = 2 ∧ x.2.2 = 0 then .iface 126 (.agg #[.int .i64 x.2.1, .int .i64 2])
  else if x.1 = 3 ∧ x.2.2 ≠ 0 then .iface 127 (.agg #[.int .i64 x.2.1, .int .i64 x.2.2]) else .nilIface
set_option maxRecDepth 100000 in
set_option maxHeartbeats 4000000 in
theorem inoteOf_eq (x : SlEl) (w : World) :
    Calls Try.prog 84 #[.agg #[.int .i64 x.1, .int .i64 x.2.1, .int .i64 x.2.2]] w fun e w' => e = .returned (nv x) ∧ Below w.heap.size w w' := by
  obtain ⟨V, hV⟩ : ∃ V, nv x = V := ⟨_, rfl⟩
  rw [hV]
  have HV := hid hV
  clear hV
  obtain ⟨k, a, b⟩ := x
  simp only
  by_cases h1 : k = 1
  · subst h1
    by_cases hb : b = 0
    · subst hb
      go_enter Try.func84, Try.ntmps84
      go_wp2
      go_ret
      exact ⟨by rw [← HV.out]; simp [nv], by go_grown⟩
    · have d : (b == 0) = false := by simpa using hb
      have HB := hid hb
      clear hb
      go_enter Try.func84, Try.ntmps84
      go_wp2
      go_ret
      exact ⟨by rw [← HV.out]; simp [nv, HB.out], by go_grown⟩
  by_cases h2 : k = 2
  · subst h2
    by_cases hb : b = 0
    · subst hb
      go_enter Try.func84, Try.ntmps84
      go_wp2
      go_ret
      exact ⟨by rw [← HV.out]; simp [nv], by go_grown⟩
    · have d : (b == 0) = false := by simpa using hb
      have HB := hid hb
      clear hb
      go_enter Try.func84, Try.ntmps84
      go_wp2
      go_ret
      exact ⟨by rw [← HV.out]; simp [nv, HB.out], by go_grown⟩
  by_cases h3 : k = 3
  · subst h3
    by_cases hb : b = 0
    · subst hb
      go_enter Try.func84, Try.ntmps84
      go_wp2
      go_ret
      exact ⟨by rw [← HV.out]; simp [nv], by go_grown⟩
    · have d : (b != 0) = true := by simpa using hb
      have HB := hid hb
      clear hb
      go_enter Try.func84, Try.ntmps84
      go_wp2
      go_ret
      exact ⟨by rw [← HV.out]; simp [nv, HB.out], by go_grown⟩
  · have d1 : (k == 1) = false := by simpa using h1
    have d2 : (k == 2) = false := by simpa using h2
    have d3 : (k == 3) = false := by simpa using h3
    have H1 := hid h1
    have H2 := hid h2
    have H3 := hid h3
    clear h1 h2 h3
    go_enter Try.func84, Try.ntmps84
    go_wp2
    go_ret
    exact ⟨by rw [← HV.out]; simp [nv, H1.out, H2.out, H3.out], by go_grown⟩
set_option maxRecDepth 100000 in
theorem ihas_eq (now : Int) (a : Option Addr) (n c : Nat) (v2 : Value) (k : Int) (t : Bool) (h : decide (0 ≤ k ∧ k < (n : Int)) = t) (w : World) :
    Calls Try.prog 98 #[.agg #[.int .i64 now, .slice a n c, v2], .int .i64 k] w fun e w' => e = .returned (.bool t) ∧ Below w.heap.size w w' := by
  have BW : Hid (Below w.heap.size w (w.alloc (.cells #[.int .i64 now, .slice a n c, v2] 26))) := (Below.refl _ _).alloc (Nat.le_refl _) _
  by_cases h0 : 0 ≤ k
  · have d0 : decide (k ≥ 0) = true := by rw [decide_eq_true_eq]; exact h0
    have d1 : decide (k < (n : Int)) = t := by rw [← h]; simp [h0]
    have HD := hid d1
    clear h h0
    go_enter Try.func98, Try.ntmps98
    go_wp2
    go_ret
    exact ⟨by first | rfl | rw [← HD.out] | (rw [← HD.out]; rfl), BW.out⟩
  · have d0 : decide (k ≥ 0) = false := by rw [decide_eq_false_iff_not]; exact h0
    have HV : Hid (t = false) := by show _ = _; rw [← h]; simp [h0]
    clear h h0
    go_enter Try.func98, Try.ntmps98
    go_wp2
    go_ret
    exact ⟨by rw [HV.out]; rfl, BW.out⟩
set_option maxRecDepth 100000 in
theorem ipleaIsOf_eq (of vd : Int) (now : Int) (a : Option Addr) (n c : Nat) (v2 : Value) (t : Bool) (h : decide (0 ≤ of ∧ of < (n : Int)) = t) (w : World) :
    Calls Try.prog 147 #[.agg #[.int .i64 of, .int .i64 vd], .agg #[.int .i64 now, .slice a n c, v2]] w fun e w' => e = .returned (.bool t) ∧ Below w.heap.size w w' := by
  have HT := hid h
  clear h
  have BW : Hid (Below w.heap.size w ((w.alloc (.cells #[.int .i64 of, .int .i64 vd] 126)).alloc (.cells #[.int .i64 now, .slice a n c, v2] 26))) := ((Below.refl _ _).alloc (Nat.le_refl _) _).alloc (by simp) _
  go_enter Try.func147, Try.ntmps147
  go_wp2_with fail
  refine (ihas_eq now a n c v2 of t HT.out _).mono ?_
  rintro e w1 ⟨rfl, bb⟩
  replace BW := hid (BW.out.trans (bb.mono BW.out.size))
  clear bb
  go_wp2
  go_ret
  exact ⟨rfl, BW.out⟩
set_option maxRecDepth 100000 in
set_option maxHeartbeats 8000000 in
theorem isayIsOf_eq (of vd : Int) (now : Int) (v1 v2 : Value) (cs : List CaEl) (t : Bool) (h : (decide (0 ≤ of ∧ of < (cs.length : Int)) && decide (vd = saidAt cs of)) = t) (w : World) (hr : CaReads w v1 cs) :
    Calls Try.prog 148 #[.agg #[.int .i64 of, .int .i64 vd], .agg #[.int .i64 now, v1, v2]] w fun e w' => e = .returned (.bool t) ∧ Below w.heap.size w w' := by
  have HR := hid hr
  obtain ⟨a, c, rfl, hl, _⟩ := hr
  have PX := hid ((boxL_new w [.int .i64 of, .int .i64 vd] 127).below ((Below.refl (w.heap.size + 1) (w.alloc (.cells #[.int .i64 of, .int .i64 vd] 127))).alloc (by simp) (.cells #[.int .i64 now, .slice a cs.length c, v2] 26)) (by omega))
  have PC := hid (boxL_new (w.alloc (.cells #[.int .i64 of, .int .i64 vd] 127)) [.int .i64 now, .slice a cs.length c, v2] 26)
  have hsz : (w.alloc (.cells #[.int .i64 of, .int .i64 vd] 127)).heap.size = w.heap.size + 1 := by simp
  rw [hsz] at PC
  have BW : Hid (Below w.heap.size w ((w.alloc (.cells #[.int .i64 of, .int .i64 vd] 127)).alloc (.cells #[.int .i64 now, .slice a cs.length c, v2] 26))) := ((Below.refl _ _).alloc (Nat.le_refl _) _).alloc (by simp) _
  obtain ⟨W, hW⟩ : ∃ W, W = (w.alloc (.cells #[.int .i64 of, .int .i64 vd] 127)).alloc (.cells #[.int .i64 now, .slice a cs.length c, v2] 26) := ⟨_, rfl⟩
  rw [← hW] at PC PX BW
  have HW := hid hW
  have HT := hid h
  clear hW hsz h
  go_enter Try.func148, Try.ntmps148
  go_upto_region 1 with fail
  rw [← HW.out]
  clear HW
  obtain ⟨p0, p1⟩ := PX.out.two
  obtain ⟨q0, q1, q2⟩ := PC.out.three
  by_cases hin : 0 ≤ of ∧ of < (cs.length : Int)
  · have HIN : Hid (decide (0 ≤ of ∧ of < (cs.length : Int)) = true) := by show _ = _; rw [decide_eq_true_eq]; exact hin
    obtain ⟨m, rfl⟩ : ∃ m : Nat, of = (m : Int) := ⟨of.toNat, by omega⟩
    have hm : m < cs.length := by omega
    obtain ⟨g, o, cap, e9, hcc⟩ := (HR.out.below BW.out).cells m hm
    cases e9
    obtain ⟨c4, c5, c6, c7⟩ := hcc m hm
    have HV : Hid (decide (vd = (cs.getD m (0, false, 0, 0)).2.2.2) = t) := by show _ = _; rw [← HT.out, HIN.out, Bool.true_and]; rfl
    generalize (cs.getD m (0, false, 0, 0)).2.2.2 = sa at c7 HV
    have dv : (vd == sa) = t := HV.out
    clear hcc c4 c5 c6 hin HT HV
    go_wp2_with fail
    go_region_with (go_at_call 98; refine (ihas_eq now _ cs.length _ v2 (m : Int) true HIN.out _).mono ?_; rintro e w3 ⟨rfl, b7⟩; have HB3 : Hid (Below W.heap.size W w3) := (Below.refl _ _).drew.trans b7; obtain ⟨r0, r1⟩ := (PX.out.below HB3.out PX.out.lt).two; obtain ⟨s0, s1, s2⟩ := (PC.out.below HB3.out PC.out.lt).three; have r7 := (HB3.out.cell (lt_of_cell c7)).trans c7; clear b7)
    all_goals
      go_wp2
      go_ret
      exact ⟨rfl, BW.out.trans (HB3.out.mono BW.out.size)⟩
  · have HIN : Hid (decide (0 ≤ of ∧ of < (cs.length : Int)) = false) := by show _ = _; rw [decide_eq_false_iff_not]; exact hin
    have HV : Hid (t = false) := by show _ = _; rw [← HT.out, HIN.out]; rfl
    have j0 := fun dd os => cell_regrown p0 dd os
    have k0 := fun dd os => cell_regrown q0 dd os
    have k1 := fun dd os => cell_regrown q1 dd os
    have k2 := fun dd os => cell_regrown q2 dd os
    have c1 : ∀ dd os, Calls Try.prog 98 #[.agg #[.int .i64 now, .slice a cs.length c, v2], .int .i64 of] (grow (redrawn W dd) os) fun e w'' => e = .returned (.bool false) ∧ ∃ p : Regrown, w'' = grow (redrawn W p.d) p.os := fun dd os => Calls.regrown_of (ihas_eq now a cs.length c v2 of false HIN.out _)
    clear hin HT
    go_wp2_with fail
    refine wp_region_quiet_below (by kernel_rfl) (by kernel_rfl) ?_
    repeat (go_big_quiet_step (exact c1 _ _))
    refine wpQuiet_nil ?_
    intro _ hw
    obtain ⟨⟨dq, osq⟩, hw2⟩ := hw
    subst hw2
    have BQ : Hid (RowKit.Below w.heap.size w (grow (redrawn W dq) osq)) := BW.out.trans ((below_regrown W dq osq).mono BW.out.size)
    go_wp2
    go_ret
    exact ⟨by rw [HV.out]; rfl, BQ.out⟩
end Go.Proofs.Ytdlkilacnnjglaa
