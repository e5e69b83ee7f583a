/-
  impl.BothOpen: whether both ends are open with the same numbers. Nothing old is written.
-/
import Derived.Test.YtgdclnejlhfhlanSBothOp
import Derived.Test.YtgdclnejlhfhlanIGoodGr
import Derived.Lib.QuietBelow
import Derived.BigQuiet
namespace Go.Proofs.Ytgdclnejlhfhlan
open Go.RowKit Go.Sort

set_option maxRecDepth 100000 in
set_option maxHeartbeats 8000000 in
theorem ibothOp_any (v : Value) (D : GrD) (w : World) (hr : GrReads w v D) :
    Calls Try.prog 29 #[v] w fun e w' => e = .returned (.tuple #[.bool (bothV D), .bool (goodG D)]) ∧ Below w.heap.size w w' := by
  have HR := hid hr
  obtain ⟨v8, v9, v10, rfl, _, _, _⟩ := hr
  obtain ⟨t, ht⟩ : ∃ t, goodG D = t := ⟨_, rfl⟩
  obtain ⟨s0, h0⟩ : ∃ s, (D.f0 == 2) = s := ⟨_, rfl⟩
  obtain ⟨s1, h1⟩ : ∃ s, (D.f1 == 2) = s := ⟨_, rfl⟩
  obtain ⟨s2, h2⟩ : ∃ s, (D.f2 == D.f4) = s := ⟨_, rfl⟩
  obtain ⟨s3, h3⟩ : ∃ s, (D.f5 == D.f3) = s := ⟨_, rfl⟩
  have HV : Hid (bothV D = (t && (s0 && (s1 && (s2 && s3))))) := by
    have h3' : (D.f3 == D.f5) = s3 := by rw [← h3, Bool.eq_iff_iff, beq_iff_eq, beq_iff_eq]; exact eq_comm
    show _ = _; rw [← ht, ← h0, ← h1, ← h2, ← h3']; rfl
  rw [HV.out, ht]
  have HC : Hid (∀ w', Below w.heap.size w w' → Calls Try.prog 12 #[.agg #[.int .i64 D.f0, .int .i64 D.f1, .int .i64 D.f2, .int .i64 D.f3, .int .i64 D.f4, .int .i64 D.f5, .int .i64 D.f6, .int .i64 D.f7, v8, v9, v10]] w' fun e w'' => e = .returned (.bool t) ∧ Below w'.heap.size w' w'') := fun w' hb => igoodGr_eq _ D t ht w' (HR.out.below hb)
  clear HV ht HR
  obtain ⟨z0, z1, z2, z3, z4, z5, z6, z7, L8, L9, L10⟩ := D
  simp only at h0 h1 h2 h3 HC ⊢
  have PB := hid (boxL_new w [.int .i64 z0, .int .i64 z1, .int .i64 z2, .int .i64 z3, .int .i64 z4, .int .i64 z5, .int .i64 z6, .int .i64 z7, v8, v9, v10] 29)
  have BW : Hid (Below w.heap.size w (w.alloc (.cells #[.int .i64 z0, .int .i64 z1, .int .i64 z2, .int .i64 z3, .int .i64 z4, .int .i64 z5, .int .i64 z6, .int .i64 z7, v8, v9, v10] 29))) := (Below.refl _ _).alloc (Nat.le_refl _) _
  obtain ⟨q0, q1, q2, q3, q4, q5, q6, q7, q8, q9, q10⟩ := PB.out.eleven
  go_enter Try.func29, Try.ntmps29
  go_wp2_with fail
  refine (HC.out _ BW.out).mono ?_
  rintro e w1 ⟨rfl, b⟩
  replace BW := hid (BW.out.trans (b.mono BW.out.size))
  replace PB := hid (PB.out.below b PB.out.lt)
  clear b q0 q1 q2 q3 q4 q5 q6 q7 q8 q9 q10
  obtain ⟨p0, p1, p2, p3, p4, p5, p6, p7, p8, p9, p10⟩ := PB.out.eleven
  cases t
  · go_wp2
    go_ret2
    exact ⟨rfl, BW.out⟩
  have j0 := fun dd os => cell_regrown p0 dd os
  have j1 := fun dd os => cell_regrown p1 dd os
  have j2 := fun dd os => cell_regrown p2 dd os
  have j3 := fun dd os => cell_regrown p3 dd os
  have j4 := fun dd os => cell_regrown p4 dd os
  have j5 := fun dd os => cell_regrown p5 dd os
  have j6 := fun dd os => cell_regrown p6 dd os
  have j7 := fun dd os => cell_regrown p7 dd os
  have j8 := fun dd os => cell_regrown p8 dd os
  have j9 := fun dd os => cell_regrown p9 dd os
  have j10 := fun dd os => cell_regrown p10 dd os
  have c1 : ∀ dd os, Calls Try.prog 56 #[.agg #[.int .i64 z0, .int .i64 z1, .int .i64 z2, .int .i64 z3, .int .i64 z4, .int .i64 z5, .int .i64 z6, .int .i64 z7, v8, v9, v10]] (grow (redrawn w1 dd) os) fun e w'' => e = .returned (.agg #[.int .i64 z2, .int .i64 z5]) ∧ ∃ p : Regrown, w'' = grow (redrawn w1 p.d) p.os := fun dd os => Calls.regrown_of ((ipairA_eq _ _ _ _ _ _ _ _ _ _ _ z2 z5 rfl rfl _).mono fun e w' h => ⟨h.1, h.2⟩)
  have c2 : ∀ dd os, Calls Try.prog 57 #[.agg #[.int .i64 z0, .int .i64 z1, .int .i64 z2, .int .i64 z3, .int .i64 z4, .int .i64 z5, .int .i64 z6, .int .i64 z7, v8, v9, v10]] (grow (redrawn w1 dd) os) fun e w'' => e = .returned (.agg #[.int .i64 z4, .int .i64 z3]) ∧ ∃ p : Regrown, w'' = grow (redrawn w1 p.d) p.os := fun dd os => Calls.regrown_of ((ipairB_eq _ _ _ _ _ _ _ _ _ _ _ z4 z3 rfl rfl _).mono fun e w' h => ⟨h.1, h.2⟩)
  cases s0 <;> cases s1 <;> cases s2 <;> cases s3
  all_goals
    go_wp2_with fail
    refine wp_region_quiet_below (by kernel_rfl) (by kernel_rfl) ?_
    repeat (go_big_quiet_step (first | exact c1 _ _ | exact c2 _ _))
    refine wpQuiet_nil ?_
    intro _ hw'
    obtain ⟨⟨dq, osq⟩, hw''⟩ := hw'
    subst hw''
    have BQ : Hid (Below w.heap.size w (grow (redrawn w1 dq) osq)) := BW.out.trans ((below_regrown w1 dq osq).mono BW.out.size)
    go_wp2
    go_ret2
    exact ⟨rfl, BQ.out⟩
end Go.Proofs.Ytgdclnejlhfhlan
