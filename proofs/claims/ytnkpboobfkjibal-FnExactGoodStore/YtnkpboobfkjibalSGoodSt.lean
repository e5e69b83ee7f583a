/-
  spec.GoodStore: whether a store is good. Nothing old is written.
-/
import Derived.Test.YtnkpboobfkjibalKBlocksRows
import Derived.Test.YtnkpboobfkjibalSpanTake
import Derived.Test.YtnkpboobfkjibalSHas1
import Derived.Test.YtnkpboobfkjibalSIn
import Derived.Lib.QuietBelow
import Derived.BigQuiet
namespace Go.Proofs.Ytnkpboobfkjibal
open Go.RowKit Go.Sort

set_option maxRecDepth 100000 in
set_option maxHeartbeats 16000000 in
theorem sgoodSt_eq (v : Value) (D : StD) (t : Bool) (h : goodSt D = t) (w : World) (hr : StReads w v D) :
    Calls Try.prog 5 #[v] w fun e w' => e = .returned (.bool t) ∧ Below w.heap.size w w' := by
  obtain ⟨v0, v1, rfl, r0, r1⟩ := hr
  have R0 := hid r0
  have R1 := hid r1
  obtain ⟨a0, p0, rfl, l0, _⟩ := r0
  obtain ⟨a1, p1, rfl, l1, _⟩ := r1
  have PB := hid (boxL_new w [.slice a0 D.f0.length p0, .slice a1 D.f1.length p1] 30)
  have BW : Hid (Below w.heap.size w (w.alloc (.cells #[.slice a0 D.f0.length p0, .slice a1 D.f1.length p1] 30))) := (Below.refl _ _).alloc (Nat.le_refl _) _
  obtain ⟨W0, hW0⟩ : ∃ W, W = w.alloc (.cells #[.slice a0 D.f0.length p0, .slice a1 D.f1.length p1] 30) := ⟨_, rfl⟩
  rw [← hW0] at PB BW
  have HW0 := hid hW0
  have HT := hid h
  clear h hW0
  have q0 := (PB.out.cell 0 (by simp)).1
  change World.cell? _ _ = some (.slice a0 D.f0.length p0) at q0
  rw [HW0.out] at q0
  go_enter Try.func5, Try.ntmps5
  go_wp2
  rw [← HW0.out]
  clear q0
  go_loopw [8] (fun i wr => ∃ k : Nat, k ≤ D.f0.length ∧ i = .int .i64 k ∧ blksU D.f0 D.f1 k = true ∧ Below W0.heap.size W0 wr) (fun i _ => D.f0.length - (intOf i).toNat)
  case atStart => exact ⟨0, by omega, rfl, rfl, Below.refl _ _⟩
  case round =>
    obtain ⟨k, hk, rfl, hu, hb⟩ := hrel
    have HU := hid hu
    have HB := hid hb
    have HBW := hid (BW.out.trans (hb.mono BW.out.size))
    have hws := hb.size
    clear hu hb
    by_cases hlt : k < D.f0.length
    · obtain ⟨g, o, cap', e, hc⟩ := (R0.out.below HBW.out).cells k hlt
      cases e
      obtain ⟨y3, ⟨c0, c1, c2, c3⟩, RB⟩ := hc k hlt
      obtain ⟨d, hd⟩ : ∃ d, d = D.f0.getD k blZ := ⟨_, rfl⟩
      rw [← hd] at c0 c1 c2 RB
      have RB1 := hid RB
      obtain ⟨pid, hpid⟩ : ∃ x, x = (D.f0.getD (k - 1) blZ).f0 := ⟨_, rfl⟩
      have cp : wr.cell? ⟨g, o + (k - 1) * 4, none⟩ = some (.int .i64 pid) := by
        obtain ⟨_, h, _⟩ := hc (k - 1) (by omega)
        rw [hpid]
        exact h.1
      clear hc RB
      obtain ⟨ay, ny, cy, rfl⟩ : ∃ a n c, y3 = .slice a n c := by
        obtain ⟨v3, e, h3⟩ := RB1.out
        obtain ⟨a, c, e2, _⟩ := h3
        have e3 : y3 = v3 := by simpa using e
        exact ⟨a, _, c, e3.trans e2⟩
      have HD := hid hd
      have HPID := hid hpid
      have HS : Hid (blksU D.f0 D.f1 (k + 1) = (goodBl d && (!doneBl d && (!D.f1.contains d.f0 && (decide (k = 0) || decide (pid < d.f0)))))) := by
        show (blksU D.f0 D.f1 k && _) = _
        rw [HU.out, ← hd, ← hpid]; rfl
      have HF : Hid (blksU D.f0 D.f1 (k + 1) = false → t = false) := fun h => by
        rw [← HT.out]
        show (blksU D.f0 D.f1 D.f0.length && _) = false
        rw [blksU_no h _ (by omega)]; rfl
      clear hd hpid
      have m0 : (0 : Int) ≤ (k : Int) := by omega
      have n1 : (k : Int) < (D.f0.length : Int) := by omega
      obtain ⟨b1, hb1⟩ : ∃ b, goodBl d = b := ⟨_, rfl⟩
      obtain ⟨b2, hb2⟩ : ∃ b, doneBl d = b := ⟨_, rfl⟩
      obtain ⟨b3, hb3⟩ : ∃ b, D.f1.contains d.f0 = b := ⟨_, rfl⟩
      rw [hb1, hb2, hb3] at HS
      have B1 := hid hb1
      have B2 := hid hb2
      have B3 := hid hb3
      clear hb1 hb2 hb3
      go_wp2_with fail
      have PV := hid (boxL_new wr [.int .i64 d.f0, .int .i64 d.f1, .string d.f2, .slice ay ny cy] 38)
      have BV : Hid (Below wr.heap.size wr (wr.alloc (.cells #[.int .i64 d.f0, .int .i64 d.f1, .string d.f2, .slice ay ny cy] 38))) := (Below.refl _ _).alloc (Nat.le_refl _) _
      obtain ⟨V, hV⟩ : ∃ V, V = wr.alloc (.cells #[.int .i64 d.f0, .int .i64 d.f1, .string d.f2, .slice ay ny cy] 38) := ⟨_, rfl⟩
      rw [← hV] at PV BV ⊢
      clear hV
      obtain ⟨x0, x1, x2, x3⟩ := PV.out.four
      have k0 := cell_regrown x0
      have k1 := cell_regrown x1
      have k2 := cell_regrown x2
      have k3 := cell_regrown x3
      have hs0 := (PB.out.below (HB.out.trans (BV.out.mono hws)) PB.out.lt).cell 0 (by simp)
      have hs1 := (PB.out.below (HB.out.trans (BV.out.mono hws)) PB.out.lt).cell 1 (by simp)
      have t0 : V.cell? ⟨w.heap.size, 0, none⟩ = some (.slice (some ⟨g, o, none⟩) D.f0.length p0) := hs0.1
      have t1 : V.cell? ⟨w.heap.size, 1, none⟩ = some (.slice a1 D.f1.length p1) := hs1.1
      have j0 := cell_regrown t0
      have j1 := cell_regrown t1
      have cpV : V.cell? ⟨g, o + (k - 1) * 4, none⟩ = some (.int .i64 pid) := (BV.out.cell (p := ⟨g, o + (k - 1) * 4, none⟩) (lt_of_cell cp)).trans cp
      have jp := cell_regrown cpV
      clear c0 c1 c2 cp x0 x1 x2 x3 hs0 hs1 t0 t1 cpV
      have BR : ∀ dd os, Below wr.heap.size wr (grow (redrawn V dd) os) := fun dd os => BV.out.trans ((below_regrown V dd os).mono BV.out.size)
      have HBR := hid BR
      clear BR
      have cG : ∀ dd os, Calls Try.prog 11 #[.agg #[.int .i64 d.f0, .int .i64 d.f1, .string d.f2, .slice ay ny cy]] (grow (redrawn V dd) os) fun e w'' => e = .returned (.bool b1) ∧ ∃ p : Regrown, w'' = grow (redrawn V p.d) p.os := fun dd os => Calls.regrown_of (sgoodBl_eq _ d b1 B1.out _ (RB1.out.below (HBR.out dd os)))
      cases b1
      · have HV : Hid (t = false) := HF.out HS.out
        have cD := cG
        have cH := cG
        refine wp_region_quiet_below (by kernel_rfl) (by kernel_rfl) ?_
        repeat (go_big_quiet_step (first | exact cG _ _ | exact cD _ _ | exact cH _ _))
        refine wpQuiet_nil ?_
        intro _ hw'
        obtain ⟨⟨dq, osq⟩, hw''⟩ := hw'
        subst hw''
        have BQ : Hid (Below w.heap.size w (grow (redrawn V dq) osq)) := HBW.out.trans ((BV.out.trans ((below_regrown V dq osq).mono BV.out.size)).mono HBW.out.size)
        have BQ0 : Hid (Below W0.heap.size W0 (grow (redrawn V dq) osq)) := HB.out.trans ((BV.out.trans ((below_regrown V dq osq).mono BV.out.size)).mono hws)
        go_wp2
        go_ret
        exact ⟨by rw [HV.out]; rfl, BQ.out⟩
      have hgd := goodBl_parts B1.out
      have HC := hid (bel_chain hgd.2.2.2.1)
      clear hgd
      have cD : ∀ dd os, Calls Try.prog 12 #[.agg #[.int .i64 d.f0, .int .i64 d.f1, .string d.f2, .slice ay ny cy]] (grow (redrawn V dd) os) fun e w'' => e = .returned (.bool b2) ∧ ∃ p : Regrown, w'' = grow (redrawn V p.d) p.os := fun dd os => Calls.regrown_of (sdoneBl_eq _ d b2 B2.out _ (RB1.out.below (HBR.out dd os)) HC.out)
      cases b2
      rotate_left
      · have HV : Hid (t = false) := HF.out HS.out
        have cH := cG
        refine wp_region_quiet_below (by kernel_rfl) (by kernel_rfl) ?_
        repeat (go_big_quiet_step (first | exact cG _ _ | exact cD _ _ | exact cH _ _))
        refine wpQuiet_nil ?_
        intro _ hw'
        obtain ⟨⟨dq, osq⟩, hw''⟩ := hw'
        subst hw''
        have BQ : Hid (Below w.heap.size w (grow (redrawn V dq) osq)) := HBW.out.trans ((BV.out.trans ((below_regrown V dq osq).mono BV.out.size)).mono HBW.out.size)
        have BQ0 : Hid (Below W0.heap.size W0 (grow (redrawn V dq) osq)) := HB.out.trans ((BV.out.trans ((below_regrown V dq osq).mono BV.out.size)).mono hws)
        go_wp2
        go_ret
        exact ⟨by rw [HV.out]; rfl, BQ.out⟩
      have cH : ∀ dd os, Calls Try.prog 13 #[.slice a1 D.f1.length p1, .int .i64 d.f0] (grow (redrawn V dd) os) fun e w'' => e = .returned (.bool b3) ∧ ∃ p : Regrown, w'' = grow (redrawn V p.d) p.os := fun dd os => Calls.regrown_of ((l1Has_eq _ D.f1 d.f0 b3 B3.out _ (R1.out.below (HBW.out.trans ((HBR.out dd os).mono HBW.out.size)))).mono fun e w' h => ⟨h.1, by rw [h.2]; exact Below.refl _ _⟩)
      cases b3
      rotate_left
      · have HV : Hid (t = false) := HF.out HS.out
        refine wp_region_quiet_below (by kernel_rfl) (by kernel_rfl) ?_
        repeat (go_big_quiet_step (first | exact cG _ _ | exact cD _ _ | exact cH _ _))
        refine wpQuiet_nil ?_
        intro _ hw'
        obtain ⟨⟨dq, osq⟩, hw''⟩ := hw'
        subst hw''
        have BQ : Hid (Below w.heap.size w (grow (redrawn V dq) osq)) := HBW.out.trans ((BV.out.trans ((below_regrown V dq osq).mono BV.out.size)).mono HBW.out.size)
        have BQ0 : Hid (Below W0.heap.size W0 (grow (redrawn V dq) osq)) := HB.out.trans ((BV.out.trans ((below_regrown V dq osq).mono BV.out.size)).mono hws)
        go_wp2
        go_ret
        exact ⟨by rw [HV.out]; rfl, BQ.out⟩
      by_cases hk0 : k = 0
      · have hkd : decide ((k : Int) > 0) = false := by rw [decide_eq_false_iff_not]; omega
        have HH : Hid (blksU D.f0 D.f1 (k + 1) = true) := by show _ = _; rw [HS.out, decide_eq_true hk0]; rfl
        have hkn : decide (0 < k) = false := by rw [decide_eq_false_iff_not]; omega
        clear HS hk0 jp
        refine wp_region_quiet_below (by kernel_rfl) (by kernel_rfl) ?_
        repeat (go_big_quiet_step (first | exact cG _ _ | exact cD _ _ | exact cH _ _))
        refine wpQuiet_nil ?_
        intro _ hw'
        obtain ⟨⟨dq, osq⟩, hw''⟩ := hw'
        subst hw''
        have BQ : Hid (Below w.heap.size w (grow (redrawn V dq) osq)) := HBW.out.trans ((BV.out.trans ((below_regrown V dq osq).mono BV.out.size)).mono HBW.out.size)
        have BQ0 : Hid (Below W0.heap.size W0 (grow (redrawn V dq) osq)) := HB.out.trans ((BV.out.trans ((below_regrown V dq osq).mono BV.out.size)).mono hws)
        go_wp2
        go_roundw
        case rel => exact ⟨k + 1, by omega, by go_num, HH.out, BQ0.out⟩
        case measure => simp [intOf]; omega
      · obtain ⟨b4, hb4⟩ : ∃ b, decide (pid < d.f0) = b := ⟨_, rfl⟩
        have HH : Hid (blksU D.f0 D.f1 (k + 1) = b4) := by show _ = _; rw [HS.out, decide_eq_false hk0, hb4]; rfl
        have hge : decide (pid ≥ d.f0) = !b4 := by rw [← hb4]; by_cases h : pid < d.f0 <;> simp [h] <;> omega
        obtain ⟨j, rfl⟩ : ∃ j, k = j + 1 := ⟨k - 1, by omega⟩
        have jp' : ∀ dd os, (grow (redrawn V dd) os).cell? ⟨g, o + j * 4, none⟩ = some (.int .i64 pid) := jp
        have hkd : decide (((j + 1 : Nat) : Int) > 0) = true := by rw [decide_eq_true_eq]; omega
        have hkd2 : decide (((j : Nat) : Int) + 1 > 0) = true := by rw [decide_eq_true_eq]; omega
        have m1 : (0 : Int) ≤ (j : Int) := by omega
        have n2 : (j : Int) < (D.f0.length : Int) := by omega
        clear HS hk0 jp hb4
        cases b4
        · have HV : Hid (t = false) := HF.out HH.out
          refine wp_region_quiet_below (by kernel_rfl) (by kernel_rfl) ?_
          repeat (go_big_quiet_step (first | exact cG _ _ | exact cD _ _ | exact cH _ _))
          refine wpQuiet_nil ?_
          intro _ hw'
          obtain ⟨⟨dq, osq⟩, hw''⟩ := hw'
          subst hw''
          have BQ : Hid (Below w.heap.size w (grow (redrawn V dq) osq)) := HBW.out.trans ((BV.out.trans ((below_regrown V dq osq).mono BV.out.size)).mono HBW.out.size)
          have BQ0 : Hid (Below W0.heap.size W0 (grow (redrawn V dq) osq)) := HB.out.trans ((BV.out.trans ((below_regrown V dq osq).mono BV.out.size)).mono hws)
          go_wp2
          go_ret
          exact ⟨by rw [HV.out]; rfl, BQ.out⟩
        · refine wp_region_quiet_below (by kernel_rfl) (by kernel_rfl) ?_
          repeat (go_big_quiet_step (first | exact cG _ _ | exact cD _ _ | exact cH _ _))
          refine wpQuiet_nil ?_
          intro _ hw'
          obtain ⟨⟨dq, osq⟩, hw''⟩ := hw'
          subst hw''
          have BQ : Hid (Below w.heap.size w (grow (redrawn V dq) osq)) := HBW.out.trans ((BV.out.trans ((below_regrown V dq osq).mono BV.out.size)).mono HBW.out.size)
          have BQ0 : Hid (Below W0.heap.size W0 (grow (redrawn V dq) osq)) := HB.out.trans ((BV.out.trans ((below_regrown V dq osq).mono BV.out.size)).mono hws)
          go_wp2
          go_roundw
          case rel => exact ⟨j + 1 + 1, by omega, by go_num, HH.out, BQ0.out⟩
          case measure => simp [intOf]; omega
    · obtain rfl : k = D.f0.length := by omega
      have HL : Hid (limB D = t) := by show _ = _; rw [← HT.out]; show _ = (blksU D.f0 D.f1 D.f0.length && _); rw [HU.out]; rfl
      have PW := hid (PB.out.below HB.out PB.out.lt)
      have q0 := (PW.out.cell 0 (by simp)).1
      have q1 := (PW.out.cell 1 (by simp)).1
      change World.cell? _ _ = some (.slice a0 D.f0.length p0) at q0
      change World.cell? _ _ = some (.slice a1 D.f1.length p1) at q1
      obtain ⟨b1, hb1⟩ : ∃ b, decide ((D.f0.length : Int) ≤ 10) = b := ⟨_, rfl⟩
      obtain ⟨b2, hb2⟩ : ∃ b, decide ((D.f1.length : Int) ≤ 100) = b := ⟨_, rfl⟩
      obtain ⟨b3, hb3⟩ : ∃ b, risB D.f1 1001 = b := ⟨_, rfl⟩
      have HV : Hid ((b1 && (b2 && b3)) = t) := by
        show _ = _
        rw [← HL.out, ← hb1, ← hb2, ← hb3]
        unfold limB
        rw [show decide ((D.f0.length : Int) ≤ 10) = decide (D.f0.length ≤ 10) from decide_eq_decide.2 (by omega), show decide ((D.f1.length : Int) ≤ 100) = decide (D.f1.length ≤ 100) from decide_eq_decide.2 (by omega)]
      have B3 := hid hb3
      clear hb3
      cases b1
      · have HE : Hid (t = false) := HV.out.symm
        go_wp2
        go_ret
        exact ⟨by rw [HE.out]; rfl, HBW.out⟩
      cases b2
      · have HE : Hid (t = false) := HV.out.symm
        go_wp2
        go_ret
        exact ⟨by rw [HE.out]; rfl, HBW.out⟩
      go_wp2_with fail
      refine (sris_eq _ D.f1 1001 b3 B3.out ⟨by omega, by omega⟩ _ (R1.out.below HBW.out)).mono ?_
      rintro e w' ⟨rfl, hw⟩; obtain rfl := hw.symm
      have HE : Hid (b3 = t) := HV.out
      go_wp2
      go_ret
      exact ⟨by rw [HE.out]; rfl, HBW.out⟩
end Go.Proofs.Ytnkpboobfkjibal
