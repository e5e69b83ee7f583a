/-
  spec.GoodTurns: whether turns are as said. Nothing old is written.
-/
import Derived.Test.YtepnhbicmlfnhacTurnFns
import Derived.Test.YtepnhbicmlfnhacSIn
namespace Go.Proofs.Ytepnhbicmlfnhac
open Go.RowKit

set_option maxRecDepth 100000 in
set_option maxHeartbeats 8000000 in
theorem sgoodT_eq (v : Value) (D : TuD) (t : Bool) (h : goodTu D = t) (w : World) (hr : TuReads w v D) :
    Calls Try.prog 86 #[v] w fun e w' => e = .returned (.bool t) ∧ Below w.heap.size w w' := by
  obtain ⟨v0, v1, v2, v3, rfl, r0, r1, r2, r3⟩ := hr
  have HT := hid h
  have R0 := hid r0
  have R1 := hid r1
  have R2 := hid r2
  have R3 := hid r3
  obtain ⟨a0, p0, rfl, l0, _⟩ := r0
  obtain ⟨a1, p1, rfl, l1, _⟩ := r1
  obtain ⟨a2, p2, rfl, l2, _⟩ := r2
  obtain ⟨a3, p3, rfl, l3, _⟩ := r3
  clear h
  have PB := hid (boxL_new w [.slice a0 D.f0.length p0, .slice a1 D.f1.length p1, .slice a2 D.f2.length p2, .slice a3 D.f3.length p3, .int .i64 D.f4] 55)
  obtain ⟨q0, q1, q2, q3, q4⟩ := PB.out.five
  have BW : Hid (Below w.heap.size w (w.alloc (.cells #[.slice a0 D.f0.length p0, .slice a1 D.f1.length p1, .slice a2 D.f2.length p2, .slice a3 D.f3.length p3, .int .i64 D.f4] 55))) := (Below.refl _ _).alloc (Nat.le_refl _) _
  obtain ⟨z, hz⟩ : ∃ z, z = D.f4 := ⟨_, rfl⟩
  have HZ := hid hz
  rw [← hz] at PB q4 BW q0 q1 q2 q3 ⊢
  clear hz
  obtain ⟨b1, e1⟩ : ∃ b, gt1 D = b := ⟨_, rfl⟩
  obtain ⟨b2, e2⟩ : ∃ b, gt2 D = b := ⟨_, rfl⟩
  obtain ⟨b6, e6⟩ : ∃ b, gt6 D = b := ⟨_, rfl⟩
  obtain ⟨b7, e7⟩ : ∃ b, gt7 D = b := ⟨_, rfl⟩
  obtain ⟨b8, e8⟩ : ∃ b, gt8 D = b := ⟨_, rfl⟩
  have E1 := hid e1
  have E2 := hid e2
  have E6 := hid e6
  have E7 := hid e7
  have E8 : Hid (decide (0 ≤ z ∧ z ≤ (D.f0.length : Int) - 1) = b8) := by show _ = _; rw [HZ.out]; exact e8
  clear e1 e2 e6 e7 e8
  go_enter Try.func86, Try.ntmps86
  go_wp2_with fail
  refine (l1In_eq (D.f0.length : Int) 1 4 b1 E1.out _).mono ?_
  rintro e w' ⟨rfl, hw⟩; obtain rfl := hw.symm
  cases b1
  · skip
    have HV : Hid (t = false) := by show _ = _; rw [← HT.out]; unfold goodTu; rw [E1.out]; simp
    go_wp2
    go_ret
    exact ⟨by rw [HV.out]; rfl, BW.out⟩
  · skip
    go_wp2_with fail
    refine (l1All7_eq _ D.f0 20 100 b2 E2.out _ (R0.out.below BW.out)).mono ?_
    rintro e w' ⟨rfl, hw⟩; obtain rfl := hw.symm
    cases b2
    · skip
      have HV : Hid (t = false) := by show _ = _; rw [← HT.out]; unfold goodTu; rw [E2.out]; simp
      go_wp2
      go_ret
      exact ⟨by rw [HV.out]; rfl, BW.out⟩
    · skip
      by_cases h3 : D.f1.length = D.f0.length
      rotate_left
      · have d3 : ((D.f1.length : Int) != (D.f0.length : Int)) = true := by rw [bne_iff_ne]; omega
        have E3 : Hid (gt3 D = false) := by show _ = _; unfold gt3; simpa using h3
        have HV : Hid (t = false) := by show _ = _; rw [← HT.out]; unfold goodTu; rw [E3.out]; simp
        go_wp2
        go_ret
        exact ⟨by rw [HV.out]; rfl, BW.out⟩
      have d3 : ((D.f1.length : Int) != (D.f0.length : Int)) = false := by rw [bne_eq_false_iff_eq]; omega
      have E3 : Hid (gt3 D = true) := by show _ = _; unfold gt3; simpa using h3
      have H3 := hid h3
      clear h3
      by_cases h4 : D.f2.length = D.f0.length
      rotate_left
      · have d4 : ((D.f2.length : Int) != (D.f0.length : Int)) = true := by rw [bne_iff_ne]; omega
        have E4 : Hid (gt4 D = false) := by show _ = _; unfold gt4; simpa using h4
        have HV : Hid (t = false) := by show _ = _; rw [← HT.out]; unfold goodTu; rw [E4.out]; simp
        go_wp2
        go_ret
        exact ⟨by rw [HV.out]; rfl, BW.out⟩
      have d4 : ((D.f2.length : Int) != (D.f0.length : Int)) = false := by rw [bne_eq_false_iff_eq]; omega
      have E4 : Hid (gt4 D = true) := by show _ = _; unfold gt4; simpa using h4
      have H4 := hid h4
      clear h4
      by_cases h5 : D.f3.length = D.f0.length
      rotate_left
      · have d5 : ((D.f3.length : Int) != (D.f0.length : Int)) = true := by rw [bne_iff_ne]; omega
        have E5 : Hid (gt5 D = false) := by show _ = _; unfold gt5; simpa using h5
        have HV : Hid (t = false) := by show _ = _; rw [← HT.out]; unfold goodTu; rw [E5.out]; simp
        go_wp2
        go_ret
        exact ⟨by rw [HV.out]; rfl, BW.out⟩
      have d5 : ((D.f3.length : Int) != (D.f0.length : Int)) = false := by rw [bne_eq_false_iff_eq]; omega
      have E5 : Hid (gt5 D = true) := by show _ = _; unfold gt5; simpa using h5
      have H5 := hid h5
      clear h5
      go_wp2_with fail
      refine (l1All7_eq _ D.f2 0 19 b6 E6.out _ (R2.out.below BW.out)).mono ?_
      rintro e w' ⟨rfl, hw⟩; obtain rfl := hw.symm
      cases b6
      · skip
        have HV : Hid (t = false) := by show _ = _; rw [← HT.out]; unfold goodTu; rw [E6.out]; simp
        go_wp2
        go_ret
        exact ⟨by rw [HV.out]; rfl, BW.out⟩
      · skip
        go_wp2_with fail
        refine (l1All7_eq _ D.f3 0 1000000 b7 E7.out _ (R3.out.below BW.out)).mono ?_
        rintro e w' ⟨rfl, hw⟩; obtain rfl := hw.symm
        cases b7
        · skip
          have HV : Hid (t = false) := by show _ = _; rw [← HT.out]; unfold goodTu; rw [E7.out]; simp
          go_wp2
          go_ret
          exact ⟨by rw [HV.out]; rfl, BW.out⟩
        · skip
          have hn4 : 1 ≤ D.f0.length ∧ D.f0.length ≤ 4 := by have h := E1.out; unfold gt1 at h; rw [decide_eq_true_eq] at h; omega
          obtain ⟨n1, hn1⟩ : ∃ n1 : Int, n1 = (D.f0.length : Int) - 1 := ⟨_, rfl⟩
          have hw1 : IntKind.i64.wrap ((D.f0.length : Int) - 1) = n1 := by rw [IntKind.wrap_i64]; omega
          rw [← hn1] at E8
          clear hn1
          go_wp2_with fail
          refine (l1In_eq z 0 n1 b8 E8.out _).mono ?_
          rintro e w' ⟨rfl, hw⟩; obtain rfl := hw.symm
          cases b8
          · have E8' : Hid (gt8 D = false) := by show _ = _; have h := E8.out; rw [HZ.out, decide_eq_false_iff_not] at h; unfold gt8; rw [decide_eq_false_iff_not]; have := hw1; rw [IntKind.wrap_i64] at this; omega
            have HV : Hid (t = false) := by show _ = _; rw [← HT.out]; unfold goodTu; rw [E8'.out]; simp
            go_wp2
            go_ret
            exact ⟨by rw [HV.out]; rfl, BW.out⟩
          · skip
            have E8' : Hid (gt8 D = true) := by show _ = _; have h := E8.out; rw [HZ.out, decide_eq_true_eq] at h; unfold gt8; rw [decide_eq_true_eq]; have := hw1; rw [IntKind.wrap_i64] at this; omega
            have HG : Hid (goodTu D = gt9 D) := by show _ = _; unfold goodTu; rw [E1.out, E2.out, E3.out, E4.out, E5.out, E6.out, E7.out, E8'.out]; simp
            obtain ⟨W, hW⟩ : ∃ W, W = w.alloc (.cells #[.slice a0 D.f0.length p0, .slice a1 D.f1.length p1, .slice a2 D.f2.length p2, .slice a3 D.f3.length p3, .int .i64 z] 55) := ⟨_, rfl⟩
            rw [← hW] at PB BW q0 q1 q2 q3 q4 ⊢
            clear hW
            go_wp2
            go_loopw [62] (fun iv wr => ∃ k : Nat, k ≤ D.f1.length ∧ iv = .int .i64 k ∧ (∀ j, j < k → qokT D j = true) ∧ W = wr) (fun iv _ => D.f1.length - (intOf iv).toNat)
            case atStart => exact ⟨0, Nat.zero_le _, rfl, fun j h => absurd h (by omega), rfl⟩
            case round =>
              obtain ⟨k, hk, rfl, hall, rfl⟩ := hrel
              have HL := hid hall
              clear hall
              by_cases hlt : k < D.f1.length
              · skip
                obtain ⟨g, o, cap', e, hc⟩ := (R1.out.below BW.out).cells k hlt
                cases e
                obtain ⟨u, cu, hu⟩ := hc k hlt
                have HU := hid hu
                obtain ⟨au, pu, rfl, _, _⟩ := hu
                have n0 : (0 : Int) ≤ (k : Int) := by omega
                have n1' : (k : Int) < (D.f1.length : Int) := by omega
                obtain ⟨qs, hqs⟩ : ∃ qs, qs = D.f1.getD k [] := ⟨_, rfl⟩
                rw [← hqs] at HU cu
                have HQS := hid hqs
                clear hc hqs
                have HQK : Hid (qokT D k = (decide (qs.length ≤ 30) && (qs.all (fun x => decide (1 ≤ x ∧ x ≤ 20)) && (decide (0 < qs.length) || decide (D.f2.getD k 0 = 0))))) := by show _ = _; unfold qokT; rw [HQS.out]
                by_cases h30 : qs.length ≤ 30
                rotate_left
                · have d30 : decide ((qs.length : Int) > 30) = true := by rw [decide_eq_true_eq]; omega
                  have d30' : decide ((30 : Int) < (qs.length : Int)) = true := by rw [decide_eq_true_eq]; omega
                  have HV : Hid (t = false) := by show _ = _; rw [← HT.out, HG.out]; exact gt9_no hlt (by rw [HQK.out, decide_eq_false h30]; simp)
                  go_wp2
                  go_ret
                  exact ⟨by rw [HV.out]; rfl, BW.out⟩
                have d30 : decide ((30 : Int) < (qs.length : Int)) = false := by rw [decide_eq_false_iff_not]; omega
                obtain ⟨ba, ea⟩ : ∃ b, (qs.all fun x => decide (1 ≤ x ∧ x ≤ 20)) = b := ⟨_, rfl⟩
                have EA := hid ea
                clear ea
                go_wp2_with fail
                refine (l1All7_eq _ qs 1 20 ba EA.out _ HU.out).mono ?_
                rintro e w' ⟨rfl, hw⟩; obtain rfl := hw.symm
                cases ba
                · skip
                  have HV : Hid (t = false) := by show _ = _; rw [← HT.out, HG.out]; exact gt9_no hlt (by rw [HQK.out, EA.out]; simp)
                  go_wp2
                  go_ret
                  exact ⟨by rw [HV.out]; rfl, BW.out⟩
                · skip
                  by_cases hq0 : qs.length = 0
                  · skip
                    have dq : decide ((qs.length : Int) = 0) = true := by rw [decide_eq_true_eq]; omega
                    have dq' : ((qs.length : Int) == 0) = true := by rw [beq_iff_eq]; omega
                    have hkc : k < D.f2.length := by have a := H3.out; have b := H4.out; omega
                    obtain ⟨g2, o2, cap2, e, hc2⟩ := (R2.out.below BW.out).cells k hkc
                    cases e
                    obtain ⟨y, hy⟩ : ∃ y, y = D.f2.getD k 0 := ⟨_, rfl⟩
                    have cy : W.cell? ⟨g2, o2 + k, none⟩ = some (.int .i64 y) := by rw [hy]; exact hc2 k hkc
                    have HY := hid hy
                    have n3 : (k : Int) < (D.f2.length : Int) := by omega
                    clear hc2 hy
                    by_cases hy0 : y = 0
                    rotate_left
                    · have dy : (y != 0) = true := by rw [bne_iff_ne]; exact hy0
                      have HV : Hid (t = false) := by show _ = _; rw [← HT.out, HG.out]; exact gt9_no hlt (by rw [HQK.out, EA.out, decide_eq_false (p := 0 < qs.length) (by omega), ← HY.out, decide_eq_false hy0]; simp)
                      go_wp2
                      go_ret
                      exact ⟨by rw [HV.out]; rfl, BW.out⟩
                    have dy : (y != 0) = false := by rw [bne_eq_false_iff_eq]; exact hy0
                    have HN : Hid (∀ j, j < k + 1 → qokT D j = true) := fun j hj => by
                      by_cases e : j = k
                      · rw [e, HQK.out, decide_eq_true h30, EA.out, ← HY.out, decide_eq_true hy0]; simp
                      · exact HL.out j (by omega)
                    go_wp2
                    go_roundw
                    case rel => exact ⟨k + 1, by omega, by go_num, HN.out, by first | rfl | trivial⟩
                    case measure => simp [intOf]; omega
                  · have dq : decide ((qs.length : Int) = 0) = false := by rw [decide_eq_false_iff_not]; omega
                    have dq' : ((qs.length : Int) == 0) = false := by rw [beq_eq_false_iff_ne]; omega
                    have hp : 0 < qs.length := by omega
                    have HN : Hid (∀ j, j < k + 1 → qokT D j = true) := fun j hj => by
                      by_cases e : j = k
                      · rw [e, HQK.out, decide_eq_true h30, EA.out, decide_eq_true hp]; simp
                      · exact HL.out j (by omega)
                    go_wp2
                    go_roundw
                    case rel => exact ⟨k + 1, by omega, by go_num, HN.out, by first | rfl | trivial⟩
                    case measure => simp [intOf]; omega
              · obtain rfl : k = D.f1.length := by omega
                have HV : Hid (t = true) := by show _ = _; rw [← HT.out, HG.out]; exact gt9_yes HL.out
                go_wp2
                go_ret
                exact ⟨by rw [HV.out]; rfl, BW.out⟩
end Go.Proofs.Ytepnhbicmlfnhac
