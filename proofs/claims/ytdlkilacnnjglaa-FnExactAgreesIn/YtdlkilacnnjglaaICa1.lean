/-
  impl's words on a case: at odds, overdue, wrong. Nothing old is written.
-/
import Derived.Test.YtdlkilacnnjglaaCoFns
import Derived.Test.YtdlkilacnnjglaaBoxL
import Derived.Deep.RegionWith
import Derived.Deep.DeepCutAuto
namespace Go.Proofs.Ytdlkilacnnjglaa
open Go.RowKit

def caV (x : CaEl) : Value := .agg #[.int .i64 x.1, .bool x.2.1, .int .i64 x.2.2.1, .int .i64 x.2.2.2]
set_option maxRecDepth 100000 in
theorem iatOdds_eq (x : CaEl) (t : Bool) (h : oddB x = t) (w : World) :
    Calls Try.prog 60 #[.agg #[.int .i64 x.1, .bool x.2.1, .int .i64 x.2.2.1, .int .i64 x.2.2.2]] w fun e w' => e = .returned (.bool t) ∧ Below w.heap.size w w' := by
  obtain ⟨en, ask, fi, sa⟩ := x
  simp only
  have HV : Hid ((!decide (fi = 0) && !decide (fi = sa)) = t) := h
  obtain ⟨b4, e4⟩ : ∃ b, decide (fi = 0) = b := ⟨_, rfl⟩
  obtain ⟨b5, e5⟩ : ∃ b, decide (fi = sa) = b := ⟨_, rfl⟩
  rw [e4, e5] at HV
  have d4 : (fi != 0) = !b4 := by rw [← e4]; rfl
  have d5 : (fi != sa) = !b5 := by rw [← e5]; rfl
  have BW : Hid (Below w.heap.size w (w.alloc (.cells #[.int .i64 en, .bool ask, .int .i64 fi, .int .i64 sa] 70))) := (Below.refl _ _).alloc (Nat.le_refl _) _
  clear h e4 e5
  cases b4 <;> cases b5
  all_goals
    have HV2 : Hid (_ = t) := HV.out
    go_enter Try.func60, Try.ntmps60
    go_wp2
    go_ret
    exact ⟨by rw [← HV2.out]; rfl, BW.out⟩
set_option maxRecDepth 100000 in
theorem ioverdue_eq (x : CaEl) (now : Int) (t : Bool) (h : dueB now x = t) (w : World) :
    Calls Try.prog 82 #[.agg #[.int .i64 x.1, .bool x.2.1, .int .i64 x.2.2.1, .int .i64 x.2.2.2], .int .i64 now] w fun e w' => e = .returned (.bool t) ∧ Below w.heap.size w w' := by
  obtain ⟨en, ask, fi, sa⟩ := x
  simp only
  have HV : Hid ((decide (sa = 0) && decide (en < now)) = t) := h
  obtain ⟨b6, e6⟩ : ∃ b, decide (sa = 0) = b := ⟨_, rfl⟩
  obtain ⟨b7, e7⟩ : ∃ b, decide (en < now) = b := ⟨_, rfl⟩
  rw [e6, e7] at HV
  have d6 : (sa == 0) = b6 := by rw [← e6]; rfl
  have d7 := e7
  have BW : Hid (Below w.heap.size w (w.alloc (.cells #[.int .i64 en, .bool ask, .int .i64 fi, .int .i64 sa] 70))) := (Below.refl _ _).alloc (Nat.le_refl _) _
  clear h e6 e7
  cases b6 <;> cases b7
  all_goals
    have HV2 : Hid (_ = t) := HV.out
    go_enter Try.func82, Try.ntmps82
    go_wp2
    go_ret
    exact ⟨by rw [← HV2.out]; rfl, BW.out⟩
/-- What impl asks of a case: no look at the range of Final. -/
def caseW (now : Int) (x : CaEl) : Bool := (decide (x.1 < 0) || (decide (x.1 > 100) || (decide (x.2.2.2 < 0) || decide (x.2.2.2 > 2)))) || (oddB x || dueB now x)
theorem caseW_eq (now : Int) (x : CaEl) : caseW now x = !caseB now x := by
  unfold caseW caseB vdB oddB dueB
  rw [Bool.eq_iff_iff]
  simp only [Bool.or_eq_true, Bool.and_eq_true, Bool.not_eq_true', decide_eq_true_eq, decide_eq_false_iff_not, Bool.and_eq_false_iff, Bool.not_eq_false']
  constructor
  · intro h
    by_cases h1 : 0 ≤ x.1 ∧ x.1 ≤ 100
    · by_cases h2 : 0 ≤ x.2.2.2 ∧ x.2.2.2 ≤ 2
      · rcases h with h | h | h
        · omega
        · right; right; right; left; exact h
        · right; right; right; right; exact h
      · right; right; left; exact h2
    · left; exact h1
  · intro h
    rcases h with h | h | h | h | h
    · left; omega
    · by_cases h3 : x.2.2.1 = x.2.2.2
      · left; omega
      · right; left; exact ⟨by omega, h3⟩
    · left; omega
    · right; left; exact h
    · right; right; exact h
set_option maxRecDepth 100000 in
set_option maxHeartbeats 8000000 in
theorem iisWrongCase_eq (now : Int) (v1 v2 : Value) (x : CaEl) (t : Bool) (h : caseB now x = t) (w : World) :
    Calls Try.prog 55 #[.agg #[.int .i64 now, v1, v2], .agg #[.int .i64 x.1, .bool x.2.1, .int .i64 x.2.2.1, .int .i64 x.2.2.2]] w fun e w' => e = .returned (.bool (!t)) ∧ Below w.heap.size w w' := by
  have HT : Hid (caseW now x = !t) := by show _ = _; rw [caseW_eq, h]
  obtain ⟨en, ask, fi, sa⟩ := x
  simp only
  clear h
  have HV : Hid (((decide (en < 0) || (decide (en > 100) || (decide (sa < 0) || decide (sa > 2)))) || (oddB (en, ask, fi, sa) || dueB now (en, ask, fi, sa))) = !t) := HT.out
  clear HT
  obtain ⟨b1, e1⟩ : ∃ b, decide (en < 0) = b := ⟨_, rfl⟩
  obtain ⟨b2, e2⟩ : ∃ b, decide (en > 100) = b := ⟨_, rfl⟩
  obtain ⟨b3, e3⟩ : ∃ b, decide (sa < 0) = b := ⟨_, rfl⟩
  obtain ⟨b4, e4⟩ : ∃ b, decide (sa > 2) = b := ⟨_, rfl⟩
  obtain ⟨b5, e5⟩ : ∃ b, oddB (en, ask, fi, sa) = b := ⟨_, rfl⟩
  obtain ⟨b6, e6⟩ : ∃ b, dueB now (en, ask, fi, sa) = b := ⟨_, rfl⟩
  rw [e1, e2, e3, e4, e5, e6] at HV
  have E5 := hid e5
  have E6 := hid e6
  clear e5 e6
  have PC := hid ((boxL_new w [.int .i64 now, v1, v2] 26).below ((Below.refl (w.heap.size + 1) (w.alloc (.cells #[.int .i64 now, v1, v2] 26))).alloc (by simp) (.cells #[.int .i64 en, .bool ask, .int .i64 fi, .int .i64 sa] 70)) (by omega))
  have PX := hid (boxL_new (w.alloc (.cells #[.int .i64 now, v1, v2] 26)) [.int .i64 en, .bool ask, .int .i64 fi, .int .i64 sa] 70)
  have hsz : (w.alloc (.cells #[.int .i64 now, v1, v2] 26)).heap.size = w.heap.size + 1 := by simp
  rw [hsz] at PX
  have BW : Hid (Below w.heap.size w ((w.alloc (.cells #[.int .i64 now, v1, v2] 26)).alloc (.cells #[.int .i64 en, .bool ask, .int .i64 fi, .int .i64 sa] 70))) := ((Below.refl _ _).alloc (Nat.le_refl _) _).alloc (by simp) _
  obtain ⟨W, hW⟩ : ∃ W, W = (w.alloc (.cells #[.int .i64 now, v1, v2] 26)).alloc (.cells #[.int .i64 en, .bool ask, .int .i64 fi, .int .i64 sa] 70) := ⟨_, rfl⟩
  rw [← hW] at PC PX BW
  have HW := hid hW
  clear hW hsz
  go_enter Try.func55, Try.ntmps55
  go_upto_region 1 with fail
  rw [← HW.out]
  clear HW
  obtain ⟨q0, q1, q2⟩ := PC.out.three
  obtain ⟨p0, p1, p2, p3⟩ := PX.out.four
  cases b1
  rotate_left
  · have HV2 : Hid (true = !t) := HV.out
    go_wp2
    go_ret
    exact ⟨by rw [← HV2.out]; rfl, BW.out⟩
  cases b2
  rotate_left
  · have HV2 : Hid (true = !t) := HV.out
    go_wp2
    go_ret
    exact ⟨by rw [← HV2.out]; rfl, BW.out⟩
  cases b3
  rotate_left
  · have HV2 : Hid (true = !t) := HV.out
    go_wp2
    go_ret
    exact ⟨by rw [← HV2.out]; rfl, BW.out⟩
  cases b4
  rotate_left
  · have HV2 : Hid (true = !t) := HV.out
    go_wp2
    go_ret
    exact ⟨by rw [← HV2.out]; rfl, BW.out⟩
  go_wp2_with fail
  refine (iatOdds_eq (en, ask, fi, sa) b5 E5.out _).mono ?_
  rintro e w1 ⟨rfl, bb⟩
  replace BW := hid (BW.out.trans (bb.mono BW.out.size))
  replace PC := hid (PC.out.below bb PC.out.lt)
  replace PX := hid (PX.out.below bb PX.out.lt)
  clear bb q0 q1 q2 p0 p1 p2 p3 E5
  obtain ⟨q0, q1, q2⟩ := PC.out.three
  obtain ⟨p0, p1, p2, p3⟩ := PX.out.four
  cases b5
  rotate_left
  · have HV2 : Hid (true = !t) := HV.out
    go_wp2
    go_ret
    exact ⟨by rw [← HV2.out]; rfl, BW.out⟩
  go_wp2_with fail
  refine (ioverdue_eq (en, ask, fi, sa) now b6 E6.out _).mono ?_
  rintro e w2 ⟨rfl, bb⟩
  replace BW := hid (BW.out.trans (bb.mono BW.out.size))
  clear bb q0 q1 q2 p0 p1 p2 p3 E6
  have HV2 : Hid (b6 = !t) := HV.out
  go_wp2
  go_ret
  exact ⟨by rw [← HV2.out]; rfl, BW.out⟩
end Go.Proofs.Ytdlkilacnnjglaa
