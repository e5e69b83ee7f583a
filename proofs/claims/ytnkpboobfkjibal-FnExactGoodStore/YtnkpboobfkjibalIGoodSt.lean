/-
  impl.GoodStore: whether a store is good. Nothing old is written.
-/
import Derived.Test.YtnkpboobfkjibalKBlocksRows
import Derived.Test.YtnkpboobfkjibalIDoneBl
import Derived.Test.YtnkpboobfkjibalIRis11
import Derived.Test.YtnkpboobfkjibalFlowFns
import Derived.Test.YtnkpboobfkjibalISet
import Derived.Lib.QuietBelow
import Derived.BigQuiet
namespace Go.Proofs.Ytnkpboobfkjibal
open Go.RowKit Go.Sort

set_option maxRecDepth 100000 in
set_option maxHeartbeats 16000000 in
theorem igoodSt_eq (v : Value) (D : StD) (t : Bool) (h : goodSt D = t) (w : World) (hr : StReads w v D) :
    Calls Try.prog 7 #[v] w fun e w' => e = .returned (.bool t) ∧ Below w.heap.size w w' := by
  obtain ⟨v0, v1, rfl, r0, r1⟩ := hr
  have R0 := hid r0
  have R1 := hid r1
  obtain ⟨a0, p0, rfl, l0, _⟩ := r0
  obtain ⟨a1, p1, rfl, l1, _⟩ := r1
  have PB := hid (boxL_new w [.slice a0 D.f0.length p0, .slice a1 D.f1.length p1] 30)
  have BW : Hid (Below w.heap.size w (w.alloc (.cells #[.slice a0 D.f0.length p0, .slice a1 D.f1.length p1] 30))) := (Below.refl _ _).alloc (Nat.le_refl _) _
  have HT := hid h
  clear h
  obtain ⟨b1, hb1⟩ : ∃ b, decide ((D.f0.length : Int) > 10) = b := ⟨_, rfl⟩
  obtain ⟨b2, hb2⟩ : ∃ b, decide ((D.f1.length : Int) > 100) = b := ⟨_, rfl⟩
  obtain ⟨b3, hb3⟩ : ∃ b, risB D.f1 1001 = b := ⟨_, rfl⟩
  have HV0 : Hid ((blksU D.f0 D.f1 D.f0.length && (!b1 && (!b2 && b3))) = t) := by
    show _ = _
    rw [← HT.out, ← hb1, ← hb2, ← hb3]
    unfold goodSt limB
    rw [show decide (D.f0.length ≤ 10) = !decide ((D.f0.length : Int) > 10) by rw [← decide_not]; exact decide_eq_decide.2 (by omega), show decide (D.f1.length ≤ 100) = !decide ((D.f1.length : Int) > 100) by rw [← decide_not]; exact decide_eq_decide.2 (by omega)]
  have B1 := hid hb1
  have B2 := hid hb2
  have B3 := hid hb3
  have HNO : Hid ((!b1 && (!b2 && b3)) = false → t = false) := fun h => by rw [← HV0.out, h, Bool.and_false]
  clear HT
  obtain ⟨q0, q1⟩ := PB.out.two
  go_enter Try.func7, Try.ntmps7
  cases b1
  rotate_left
  · have HV : Hid (t = false) := HNO.out rfl
    go_wp2
    go_ret
    exact ⟨by rw [HV.out]; rfl, BW.out⟩
  cases b2
  rotate_left
  · have HV : Hid (t = false) := HNO.out rfl
    go_wp2
    go_ret
    exact ⟨by rw [HV.out]; rfl, BW.out⟩
  go_wp2_with fail
  refine (iris_eq _ D.f1 1001 b3 B3.out _ (R1.out.below BW.out)).mono ?_
  rintro e w' ⟨rfl, hw⟩; obtain rfl := hw.symm
  cases b3
  · have HV : Hid (t = false) := HNO.out rfl
    go_wp2
    go_ret
    exact ⟨by rw [HV.out]; rfl, BW.out⟩
  have HTT : Hid (blksU D.f0 D.f1 D.f0.length = t) := by show _ = _; rw [← HV0.out]; simp
  have hfew : D.f1.length ≤ 100 := by have h := B2.out; rw [decide_eq_false_iff_not] at h; omega
  clear hb1 hb2 hb3 HV0 HNO
  go_wp2_with fail
  refine (isetof_any _ D.f1 _ (R1.out.below BW.out) (fun x hx => inW_small (by have := risB_mem B3.out x hx; omega) (by have := risB_mem B3.out x hx; omega)) (by omega)).mono ?_
  rintro e W0 ⟨rfl, hms, bb⟩
  replace BW := hid (BW.out.trans (bb.mono BW.out.size))
  replace PB := hid (PB.out.below bb PB.out.lt)
  obtain ⟨sb, hsb⟩ : ∃ sb, sb = (w.alloc (.cells #[.slice a0 D.f0.length p0, .slice a1 D.f1.length p1] 30)).heap.size := ⟨_, rfl⟩
  rw [← hsb] at hms ⊢
  have MS := hid hms
  clear bb hms hsb q0 q1
  obtain ⟨q0, q1⟩ := PB.out.two
  go_wp2
  clear q0 q1
  go_loopw [28] (fun i wr => ∃ k : Nat, k ≤ D.f0.length ∧ i = .int .i64 k ∧ blksU D.f0 D.f1 k = true ∧ Below W0.heap.size W0 wr) (fun i _ => D.f0.length - (intOf i).toNat)
  case atStart => exact ⟨0, by omega, rfl, rfl, Below.refl _ _⟩
  case round =>
    obtain ⟨k, hk, rfl, hu, hb⟩ := hrel
    have HU := hid hu
    have HB := hid hb
    have HBW := hid (BW.out.trans (hb.mono BW.out.size))
    have hws := hb.size
    clear hu hb
    by_cases hlt : k < D.f0.length
    · obtain ⟨g, o, cap', e, hc⟩ := (R0.out.below HBW.out).cells k hlt
      cases e
      obtain ⟨y3, ⟨c0, c1, c2, c3⟩, RB⟩ := hc k hlt
      obtain ⟨d, hd⟩ : ∃ d, d = D.f0.getD k blZ := ⟨_, rfl⟩
      rw [← hd] at c0 c1 c2 RB
      have RB1 := hid RB
      obtain ⟨pid, hpid⟩ : ∃ x, x = (D.f0.getD (k - 1) blZ).f0 := ⟨_, rfl⟩
      have cp : wr.cell? ⟨g, o + (k - 1) * 4, none⟩ = some (.int .i64 pid) := by
        obtain ⟨_, h, _⟩ := hc (k - 1) (by omega)
        rw [hpid]
        exact h.1
      clear hc RB
      obtain ⟨ay, ny, cy, rfl⟩ : ∃ a n c, y3 = .slice a n c := by
        obtain ⟨v3, e, h3⟩ := RB1.out
        obtain ⟨a, c, e2, _⟩ := h3
        have e3 : y3 = v3 := by simpa using e
        exact ⟨a, _, c, e3.trans e2⟩
      have HS : Hid (blksU D.f0 D.f1 (k + 1) = (goodBl d && (!doneBl d && (!D.f1.contains d.f0 && (decide (k = 0) || decide (pid < d.f0)))))) := by
        show (blksU D.f0 D.f1 k && _) = _
        rw [HU.out, ← hd, ← hpid]; rfl
      have HF : Hid (blksU D.f0 D.f1 (k + 1) = false → t = false) := fun h => by
        rw [← HTT.out]
        exact blksU_no h _ (by omega)
      clear hd hpid
      have m0 : (0 : Int) ≤ (k : Int) := by omega
      have n1 : (k : Int) < (D.f0.length : Int) := by omega
      obtain ⟨b1, hb1⟩ : ∃ b, goodBl d = b := ⟨_, rfl⟩
      obtain ⟨b2, hb2⟩ : ∃ b, doneBl d = b := ⟨_, rfl⟩
      obtain ⟨b3, hb3⟩ : ∃ b, D.f1.contains d.f0 = b := ⟨_, rfl⟩
      rw [hb1, hb2, hb3] at HS
      have C1 := hid hb1
      have C2 := hid hb2
      have C3 := hid hb3
      clear hb1 hb2 hb3
      go_wp2_with fail
      have PV := hid (boxL_new wr [.int .i64 d.f0, .int .i64 d.f1, .string d.f2, .slice ay ny cy] 38)
      have BV : Hid (Below wr.heap.size wr (wr.alloc (.cells #[.int .i64 d.f0, .int .i64 d.f1, .string d.f2, .slice ay ny cy] 38))) := (Below.refl _ _).alloc (Nat.le_refl _) _
      obtain ⟨V, hV⟩ : ∃ V, V = wr.alloc (.cells #[.int .i64 d.f0, .int .i64 d.f1, .string d.f2, .slice ay ny cy] 38) := ⟨_, rfl⟩
      rw [← hV] at PV BV ⊢
      clear hV
      obtain ⟨x0, x1, x2, x3⟩ := PV.out.four
      have k0 := cell_regrown x0
      have k1 := cell_regrown x1
      have k2 := cell_regrown x2
      have k3 := cell_regrown x3
      have hs0 := (PB.out.below (HB.out.trans (BV.out.mono hws)) PB.out.lt).cell 0 (by simp)
      have t0 : V.cell? ⟨w.heap.size, 0, none⟩ = some (.slice (some ⟨g, o, none⟩) D.f0.length p0) := hs0.1
      have j0 := cell_regrown t0
      have cpV : V.cell? ⟨g, o + (k - 1) * 4, none⟩ = some (.int .i64 pid) := (BV.out.cell (p := ⟨g, o + (k - 1) * 4, none⟩) (lt_of_cell cp)).trans cp
      have jp := cell_regrown cpV
      clear c0 c1 c2 cp x0 x1 x2 x3 hs0 t0 cpV
      have HBR : Hid (∀ dd os, Below wr.heap.size wr (grow (redrawn V dd) os)) := fun dd os => BV.out.trans ((below_regrown V dd os).mono BV.out.size)
      have cG : ∀ dd os, Calls Try.prog 19 #[.agg #[.int .i64 d.f0, .int .i64 d.f1, .string d.f2, .slice ay ny cy]] (grow (redrawn V dd) os) fun e w'' => e = .returned (.bool b1) ∧ ∃ p : Regrown, w'' = grow (redrawn V p.d) p.os := fun dd os => Calls.regrown_of (igoodBl_eq _ d b1 C1.out _ (RB1.out.below (HBR.out dd os)))
      cases b1
      · have HV : Hid (t = false) := HF.out HS.out
        have cD := cG
        have cH := cG
        refine wp_region_quiet_below (by kernel_rfl) (by kernel_rfl) ?_
        repeat (go_big_quiet_step (first | exact cG _ _ | exact cD _ _ | exact cH _ _))
        refine wpQuiet_nil ?_
        intro _ hw'
        obtain ⟨⟨dq, osq⟩, hw''⟩ := hw'
        subst hw''
        have BQ : Hid (Below w.heap.size w (grow (redrawn V dq) osq)) := HBW.out.trans ((BV.out.trans ((below_regrown V dq osq).mono BV.out.size)).mono HBW.out.size)
        have BQ0 : Hid (Below W0.heap.size W0 (grow (redrawn V dq) osq)) := HB.out.trans ((BV.out.trans ((below_regrown V dq osq).mono BV.out.size)).mono hws)
        go_wp2
        go_ret
        exact ⟨by rw [HV.out]; rfl, BQ.out⟩
      have hgd := goodBl_parts C1.out
      have hid1 := hgd.1
      have HLL := hid hgd.2.1
      have HC := hid hgd.2.2.2.1
      clear hgd
      have cD : ∀ dd os, Calls Try.prog 20 #[.agg #[.int .i64 d.f0, .int .i64 d.f1, .string d.f2, .slice ay ny cy]] (grow (redrawn V dd) os) fun e w'' => e = .returned (.bool b2) ∧ ∃ p : Regrown, w'' = grow (redrawn V p.d) p.os := fun dd os => Calls.regrown_of (idoneBl_eq _ d b2 C2.out _ (RB1.out.below (HBR.out dd os)) HC.out HLL.out)
      cases b2
      rotate_left
      · have HV : Hid (t = false) := HF.out HS.out
        have cH := cG
        refine wp_region_quiet_below (by kernel_rfl) (by kernel_rfl) ?_
        repeat (go_big_quiet_step (first | exact cG _ _ | exact cD _ _ | exact cH _ _))
        refine wpQuiet_nil ?_
        intro _ hw'
        obtain ⟨⟨dq, osq⟩, hw''⟩ := hw'
        subst hw''
        have BQ : Hid (Below w.heap.size w (grow (redrawn V dq) osq)) := HBW.out.trans ((BV.out.trans ((below_regrown V dq osq).mono BV.out.size)).mono HBW.out.size)
        have BQ0 : Hid (Below W0.heap.size W0 (grow (redrawn V dq) osq)) := HB.out.trans ((BV.out.trans ((below_regrown V dq osq).mono BV.out.size)).mono hws)
        go_wp2
        go_ret
        exact ⟨by rw [HV.out]; rfl, BQ.out⟩
      have cH : ∀ dd os, Calls Try.prog 21 #[.map (some sb), .int .i64 d.f0] (grow (redrawn V dd) os) fun e w'' => e = .returned (.bool b3) ∧ ∃ p : Regrown, w'' = grow (redrawn V p.d) p.os := fun dd os => Calls.regrown_of (ihass_eq sb D.f1.length (fun x => D.f1.contains x) d.f0 b3 C3.out _ (MS.out.below (HB.out.trans ((HBR.out dd os).mono hws))) (inW_small (by omega) (by omega)))
      cases b3
      rotate_left
      · have HV : Hid (t = false) := HF.out HS.out
        refine wp_region_quiet_below (by kernel_rfl) (by kernel_rfl) ?_
        repeat (go_big_quiet_step (first | exact cG _ _ | exact cD _ _ | exact cH _ _))
        refine wpQuiet_nil ?_
        intro _ hw'
        obtain ⟨⟨dq, osq⟩, hw''⟩ := hw'
        subst hw''
        have BQ : Hid (Below w.heap.size w (grow (redrawn V dq) osq)) := HBW.out.trans ((BV.out.trans ((below_regrown V dq osq).mono BV.out.size)).mono HBW.out.size)
        have BQ0 : Hid (Below W0.heap.size W0 (grow (redrawn V dq) osq)) := HB.out.trans ((BV.out.trans ((below_regrown V dq osq).mono BV.out.size)).mono hws)
        go_wp2
        go_ret
        exact ⟨by rw [HV.out]; rfl, BQ.out⟩
      by_cases hk0 : k = 0
      · have hkd : decide ((k : Int) > 0) = false := by rw [decide_eq_false_iff_not]; omega
        have hkn : decide (0 < k) = false := by rw [decide_eq_false_iff_not]; omega
        have HH : Hid (blksU D.f0 D.f1 (k + 1) = true) := by show _ = _; rw [HS.out, decide_eq_true hk0]; rfl
        clear HS hk0 jp
        refine wp_region_quiet_below (by kernel_rfl) (by kernel_rfl) ?_
        repeat (go_big_quiet_step (first | exact cG _ _ | exact cD _ _ | exact cH _ _))
        refine wpQuiet_nil ?_
        intro _ hw'
        obtain ⟨⟨dq, osq⟩, hw''⟩ := hw'
        subst hw''
        have BQ : Hid (Below w.heap.size w (grow (redrawn V dq) osq)) := HBW.out.trans ((BV.out.trans ((below_regrown V dq osq).mono BV.out.size)).mono HBW.out.size)
        have BQ0 : Hid (Below W0.heap.size W0 (grow (redrawn V dq) osq)) := HB.out.trans ((BV.out.trans ((below_regrown V dq osq).mono BV.out.size)).mono hws)
        go_wp2
        go_roundw
        case rel => exact ⟨k + 1, by omega, by go_num, HH.out, BQ0.out⟩
        case measure => simp [intOf]; omega
      · obtain ⟨b4, hb4⟩ : ∃ b, decide (pid < d.f0) = b := ⟨_, rfl⟩
        have HH : Hid (blksU D.f0 D.f1 (k + 1) = b4) := by show _ = _; rw [HS.out, decide_eq_false hk0, hb4]; rfl
        have hge : decide (d.f0 ≤ pid) = !b4 := by rw [← hb4]; by_cases h : pid < d.f0 <;> simp [h] <;> omega
        obtain ⟨j, rfl⟩ : ∃ j, k = j + 1 := ⟨k - 1, by omega⟩
        have jp' : ∀ dd os, (grow (redrawn V dd) os).cell? ⟨g, o + j * 4, none⟩ = some (.int .i64 pid) := jp
        have hkd : decide (((j + 1 : Nat) : Int) > 0) = true := by rw [decide_eq_true_eq]; omega
        have hkd2 : decide (((j : Nat) : Int) + 1 > 0) = true := by rw [decide_eq_true_eq]; omega
        have m1 : (0 : Int) ≤ (j : Int) := by omega
        have n2 : (j : Int) < (D.f0.length : Int) := by omega
        clear HS hk0 jp hb4
        cases b4
        · have HV : Hid (t = false) := HF.out HH.out
          refine wp_region_quiet_below (by kernel_rfl) (by kernel_rfl) ?_
          repeat (go_big_quiet_step (first | exact cG _ _ | exact cD _ _ | exact cH _ _))
          refine wpQuiet_nil ?_
          intro _ hw'
          obtain ⟨⟨dq, osq⟩, hw''⟩ := hw'
          subst hw''
          have BQ : Hid (Below w.heap.size w (grow (redrawn V dq) osq)) := HBW.out.trans ((BV.out.trans ((below_regrown V dq osq).mono BV.out.size)).mono HBW.out.size)
          have BQ0 : Hid (Below W0.heap.size W0 (grow (redrawn V dq) osq)) := HB.out.trans ((BV.out.trans ((below_regrown V dq osq).mono BV.out.size)).mono hws)
          go_wp2
          go_ret
          exact ⟨by rw [HV.out]; rfl, BQ.out⟩
        · refine wp_region_quiet_below (by kernel_rfl) (by kernel_rfl) ?_
          repeat (go_big_quiet_step (first | exact cG _ _ | exact cD _ _ | exact cH _ _))
          refine wpQuiet_nil ?_
          intro _ hw'
          obtain ⟨⟨dq, osq⟩, hw''⟩ := hw'
          subst hw''
          have BQ : Hid (Below w.heap.size w (grow (redrawn V dq) osq)) := HBW.out.trans ((BV.out.trans ((below_regrown V dq osq).mono BV.out.size)).mono HBW.out.size)
          have BQ0 : Hid (Below W0.heap.size W0 (grow (redrawn V dq) osq)) := HB.out.trans ((BV.out.trans ((below_regrown V dq osq).mono BV.out.size)).mono hws)
          go_wp2
          go_roundw
          case rel => exact ⟨j + 1 + 1, by omega, by go_num, HH.out, BQ0.out⟩
          case measure => simp [intOf]; omega
    · obtain rfl : k = D.f0.length := by omega
      have HV : Hid (t = true) := by show _ = _; rw [← HTT.out]; exact HU.out
      go_wp2
      go_ret
      exact ⟨by rw [HV.out]; rfl, HBW.out⟩
end Go.Proofs.Ytnkpboobfkjibal
