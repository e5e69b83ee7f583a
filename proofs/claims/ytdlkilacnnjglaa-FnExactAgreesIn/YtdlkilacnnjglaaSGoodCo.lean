/-
  spec.GoodCourt: whether a court is good. Nothing old is written.
-/
import Derived.Test.YtdlkilacnnjglaaSVerd
import Derived.Deep.RegionWith
import Derived.Deep.DeepCutAuto
namespace Go.Proofs.Ytdlkilacnnjglaa
open Go.RowKit

theorem slip_told (ki : Int) {b b2 b3 b4 : Bool} (e2 : decide (ki = 3) = b2) (h : (true && if ki = 3 then !b3 && b4 else b3) = b) : (if b2 = true then !b3 && b4 else b3) = b := by
  subst e2
  by_cases h3 : ki = 3
  · rw [if_pos h3] at h
    rw [decide_eq_true h3, if_pos rfl, ← h, Bool.true_and]
  · rw [if_neg h3] at h
    rw [decide_eq_false h3, if_neg (by decide), ← h, Bool.true_and]
set_option maxRecDepth 100000 in
set_option maxHeartbeats 16000000 in
theorem sgoodCo_eq (v : Value) (D : CoD) (t : Bool) (h : goodC D = t) (w : World) (hr : CoReads w v D) :
    Calls Try.prog 18 #[v] w fun e w' => e = .returned (.bool t) ∧ Below w.heap.size w w' := by
  obtain ⟨v1, v2, rfl, r1, r2⟩ := hr
  obtain ⟨now, cs, ls⟩ := D
  simp only at r1 r2 ⊢
  have R1 := hid r1
  have R2 := hid r2
  obtain ⟨a1, p1, rfl, l1, _⟩ := r1
  obtain ⟨a2, p2, rfl, l2, _⟩ := r2
  unfold goodC at h
  simp only at h
  have HT := hid h
  have PB := hid (boxL_new w [.int .i64 now, .slice a1 cs.length p1, .slice a2 ls.length p2] 26)
  have BW : Hid (Below w.heap.size w (w.alloc (.cells #[.int .i64 now, .slice a1 cs.length p1, .slice a2 ls.length p2] 26))) := (Below.refl _ _).alloc (Nat.le_refl _) _
  obtain ⟨W0, hW0⟩ : ∃ W, W = w.alloc (.cells #[.int .i64 now, .slice a1 cs.length p1, .slice a2 ls.length p2] 26) := ⟨_, rfl⟩
  rw [← hW0] at PB BW
  have HW0 := hid hW0
  have hs : w.heap.size < W0.heap.size := by rw [hW0, World.size_alloc]; omega
  have HS := hid hs
  clear hs
  clear h hW0
  go_enter Try.func18, Try.ntmps18
  go_upto_region 1 with fail
  rw [← HW0.out]
  clear HW0
  obtain ⟨q0, q1, q2⟩ := PB.out.three
  go_wp2
  go_loopw [10] (fun i wr => ∃ k : Nat, k ≤ cs.length ∧ i = .int .i64 k ∧ (cs.take k).all (caseB now) = true ∧ Below W0.heap.size W0 wr) (fun i _ => cs.length - (intOf i).toNat)
  case atStart => exact ⟨0, Nat.zero_le _, rfl, rfl, Below.refl _ _⟩
  case round =>
    obtain ⟨k, hk, rfl, hall, hbel⟩ := hrel
    have HA := hid hall
    have HB := hid hbel
    have PW := hid (PB.out.below hbel HS.out)
    have BL : Hid (Below w.heap.size w wr) := BW.out.trans (hbel.mono (Nat.le_of_lt HS.out))
    have HC := hid ((R1.out.below BW.out).below hbel)
    clear hall hbel q0 q1 q2
    obtain ⟨q0, q1, q2⟩ := PW.out.three
    by_cases hlt : k < cs.length
    · obtain ⟨g, o, cap', e, hc⟩ := HC.out.cells k hlt
      cases e
      obtain ⟨x, hx0⟩ : ∃ x, x = cs.getD k (0, false, 0, 0) := ⟨_, rfl⟩
      have hck := hc k hlt
      rw [← hx0] at hck
      obtain ⟨b, hb⟩ : ∃ b, caseB now (cs.getD k (0, false, 0, 0)) = b := ⟨_, rfl⟩
      have HK := hid hb
      have HKX : Hid (caseB now x = b) := by show _ = _; rw [hx0]; exact hb
      have HSN : Hid ((cs.take (k + 1)).all (caseB now) = b) := by show _ = _; rw [ca_all_take _ cs k hlt, HA.out, hb, Bool.true_and]
      clear hc hb hx0
      obtain ⟨en, ask, fi, sa⟩ := x
      obtain ⟨c0, c1, c2, c3⟩ := hck
      simp only at c0 c1 c2 c3
      have HV : Hid ((decide (0 ≤ en ∧ en ≤ 100) && (vdB fi && (vdB sa && (!(!decide (fi = 0) && !decide (fi = sa)) && !(decide (sa = 0) && decide (en < now)))))) = b) := HKX.out
      obtain ⟨b1, e1⟩ : ∃ b, decide (0 ≤ en ∧ en ≤ 100) = b := ⟨_, rfl⟩
      obtain ⟨b2, e2⟩ : ∃ b, vdB fi = b := ⟨_, rfl⟩
      obtain ⟨b3, e3⟩ : ∃ b, vdB sa = b := ⟨_, rfl⟩
      obtain ⟨b4, e4⟩ : ∃ b, decide (fi = 0) = b := ⟨_, rfl⟩
      obtain ⟨b5, e5⟩ : ∃ b, decide (fi = sa) = b := ⟨_, rfl⟩
      obtain ⟨b6, e6⟩ : ∃ b, decide (sa = 0) = b := ⟨_, rfl⟩
      obtain ⟨b7, e7⟩ : ∃ b, decide (en < now) = b := ⟨_, rfl⟩
      rw [e1, e2, e3, e4, e5, e6, e7] at HV
      have E1 := hid e1
      have E2 := hid e2
      have E3 := hid e3
      have d4 : (fi != 0) = !b4 := by rw [← e4]; rfl
      have d5 : (fi != sa) = !b5 := by rw [← e5]; rfl
      have d6 : (sa == 0) = b6 := by rw [← e6]; rfl
      have d7 : decide (now > en) = b7 := e7
      clear e1 e2 e3 e4 e5 e6 e7 HKX
      have BA : Hid (Below W0.heap.size W0 (wr.alloc (.cells #[.int .i64 en, .bool ask, .int .i64 fi, .int .i64 sa] 70))) := HB.out.alloc HB.out.size _
      have BV : Hid (Below w.heap.size w (wr.alloc (.cells #[.int .i64 en, .bool ask, .int .i64 fi, .int .i64 sa] 70))) := BL.out.alloc BL.out.size _
      obtain ⟨s0, s1, s2⟩ := (PW.out.below ((Below.refl wr.heap.size wr).alloc (Nat.le_refl _) (.cells #[.int .i64 en, .bool ask, .int .i64 fi, .int .i64 sa] 70)) PW.out.lt).three
      have NO : Hid (b = false → t = false) := fun h => by have h1 := HT.out; rw [ca_all_no k hlt (HK.out.trans h)] at h1; exact h1.symm
      go_wp2_with fail
      refine (l1In_eq _ _ _ b1 E1.out _).mono ?_
      rintro e w' ⟨rfl, hw⟩; obtain rfl := hw.symm
      cases b1
      · have HV2 : Hid (t = false) := NO.out HV.out.symm
        go_wp2
        go_ret
        exact ⟨by rw [HV2.out]; rfl, BV.out⟩
      go_wp2_with fail
      refine (l16Verdict_eq _ b2 E2.out _).mono ?_
      rintro e w' ⟨rfl, hw⟩; obtain rfl := hw.symm
      cases b2
      · have HV2 : Hid (t = false) := NO.out HV.out.symm
        go_wp2
        go_ret
        exact ⟨by rw [HV2.out]; rfl, BV.out⟩
      go_wp2_with fail
      refine (l16Verdict_eq _ b3 E3.out _).mono ?_
      rintro e w' ⟨rfl, hw⟩; obtain rfl := hw.symm
      cases b3
      · have HV2 : Hid (t = false) := NO.out HV.out.symm
        go_wp2
        go_ret
        exact ⟨by rw [HV2.out]; rfl, BV.out⟩
      clear E1 E2 E3
      cases b4 <;> cases b5 <;> cases b6 <;> cases b7
      all_goals first
        | (have HV2 : Hid (t = false) := NO.out HV.out.symm
           go_wp2
           go_ret
           exact ⟨by rw [HV2.out]; rfl, BV.out⟩)
        | (have HV2 : Hid (b = true) := HV.out.symm
           go_wp2
           go_roundw
           case rel => exact ⟨k + 1, by omega, by go_num, HSN.out.trans HV2.out, BA.out⟩
           case measure => simp [intOf]; omega)
    · have HAA : Hid (cs.all (caseB now) = true) := by show _ = _; have := HA.out; rw [List.take_of_length_le (by omega)] at this; exact this
      have HB2 := hid HB.out
      clear HA HB
      obtain ⟨W1, rfl⟩ : ∃ W1, W1 = wr := ⟨_, rfl⟩
      go_wp2
      go_loopw [58] (fun i wr => ∃ k : Nat, k ≤ ls.length ∧ i = .int .i64 k ∧ (ls.take k).all (slipB cs) = true ∧ Below W1.heap.size W1 wr) (fun i _ => ls.length - (intOf i).toNat)
      case atStart => exact ⟨0, Nat.zero_le _, rfl, rfl, Below.refl _ _⟩
      case round =>
        obtain ⟨j, hj, rfl, hall, hbel⟩ := hrel
        have HA := hid hall
        have HB := hid hbel
        have PX := hid (PW.out.below hbel (Nat.lt_of_lt_of_le HS.out HB2.out.size))
        have BX : Hid (Below w.heap.size w wr) := BL.out.trans (hbel.mono BL.out.size)
        have HR := hid (((R2.out.below BW.out).below HB2.out).below hbel)
        have HCS := hid (HC.out.below hbel)
        clear hall hbel q0 q1 q2
        obtain ⟨q0, q1, q2⟩ := PX.out.three
        by_cases hlt : j < ls.length
        · obtain ⟨g, o, cap', e, hc⟩ := HR.out.cells j hlt
          cases e
          obtain ⟨x, hx0⟩ : ∃ x, x = ls.getD j (0, 0, 0) := ⟨_, rfl⟩
          have hck := hc j hlt
          rw [← hx0] at hck
          obtain ⟨b, hb⟩ : ∃ b, slipB cs (ls.getD j (0, 0, 0)) = b := ⟨_, rfl⟩
          have HK := hid hb
          have HKX : Hid (slipB cs x = b) := by show _ = _; rw [hx0]; exact hb
          have HSN : Hid ((ls.take (j + 1)).all (slipB cs) = b) := by show _ = _; rw [sl_all_take _ ls j hlt, HA.out, hb, Bool.true_and]
          clear hc hb hx0
          obtain ⟨ki, ca, wh⟩ := x
          obtain ⟨c0, c1, c2⟩ := hck
          simp only at c0 c1 c2
          have BA : Hid (Below W1.heap.size W1 (wr.alloc (.cells #[.int .i64 ki, .int .i64 ca, .int .i64 wh] 80))) := HB.out.alloc HB.out.size _
          have BV : Hid (Below w.heap.size w (wr.alloc (.cells #[.int .i64 ki, .int .i64 ca, .int .i64 wh] 80))) := BX.out.alloc BX.out.size _
          obtain ⟨s0, s1, s2⟩ := (PX.out.below ((Below.refl wr.heap.size wr).alloc (Nat.le_refl _) (.cells #[.int .i64 ki, .int .i64 ca, .int .i64 wh] 80)) PX.out.lt).three
          have NO : Hid (b = false → t = false) := fun h => by have h1 := HT.out; rw [HAA.out, sl_all_no j hlt (HK.out.trans h)] at h1; exact h1.symm
          by_cases hca : 0 ≤ ca ∧ ca < (cs.length : Int)
          rotate_left
          · have HV2 : Hid (t = false) := NO.out (by rw [← HKX.out]; unfold slipB; simp only; rw [decide_eq_false hca]; rfl)
            by_cases h0 : ca < 0
            · have d0 : decide (ca < 0) = true := by rw [decide_eq_true_eq]; exact h0
              clear hca
              go_wp2
              go_ret
              exact ⟨by rw [HV2.out]; rfl, BV.out⟩
            · have d0 : decide (ca < 0) = false := by rw [decide_eq_false_iff_not]; exact h0
              have d1 : decide (ca ≥ (cs.length : Int)) = true := by rw [decide_eq_true_eq]; omega
              clear hca
              go_wp2
              go_ret
              exact ⟨by rw [HV2.out]; rfl, BV.out⟩
          have d0 : decide (ca < 0) = false := by rw [decide_eq_false_iff_not]; omega
          have d1 : decide (ca ≥ (cs.length : Int)) = false := by rw [decide_eq_false_iff_not]; omega
          have HV : Hid ((decide (1 ≤ ki ∧ ki ≤ 3) && (if ki = 3 then !decide (wh = 0) && decide (wh = saidAt cs ca) else decide (wh = 0))) = b) := by
            have h := HKX.out; unfold slipB at h; simp only at h; rw [decide_eq_true hca, Bool.true_and] at h; exact h
          obtain ⟨b1, e1⟩ : ∃ b, decide (1 ≤ ki ∧ ki ≤ 3) = b := ⟨_, rfl⟩
          rw [e1] at HV
          have E1 := hid e1
          clear e1 HKX
          go_wp2_with fail
          refine (l1In_eq _ _ _ b1 E1.out _).mono ?_
          rintro e w' ⟨rfl, hw⟩; obtain rfl := hw.symm
          cases b1
          · have HV2 : Hid (t = false) := NO.out HV.out.symm
            go_wp2
            go_ret
            exact ⟨by rw [HV2.out]; rfl, BV.out⟩
          clear E1
          obtain ⟨m, rfl⟩ : ∃ m : Nat, ca = (m : Int) := ⟨ca.toNat, by omega⟩
          obtain ⟨g1, o1, cap1, e9, hcc⟩ := HCS.out.cells m (by omega)
          cases e9
          obtain ⟨c4, c5, c6, c7⟩ := hcc m (by omega)
          have hsa : saidAt cs (m : Int) = (cs.getD m (0, false, 0, 0)).2.2.2 := rfl
          rw [hsa] at HV
          generalize (cs.getD m (0, false, 0, 0)).2.2.2 = sa at c7 HV
          clear hcc hsa c4 c5 c6
          have hmN : m < cs.length := by omega
          obtain ⟨b2, e2⟩ : ∃ b, decide (ki = 3) = b := ⟨_, rfl⟩
          obtain ⟨b3, e3⟩ : ∃ b, decide (wh = 0) = b := ⟨_, rfl⟩
          obtain ⟨b4, e4⟩ : ∃ b, decide (wh = sa) = b := ⟨_, rfl⟩
          have HV3 : Hid ((if b2 = true then !b3 && b4 else b3) = b) := by
            have h := HV.out; rw [e3, e4] at h; exact slip_told ki e2 h
          have k3 : (ki == 3) = b2 := by rw [← e2]; rfl
          have k3' : (ki != 3) = !b2 := by rw [← e2]; rfl
          have w0 : (wh == 0) = b3 := by rw [← e3]; rfl
          have w0' : (wh != 0) = !b3 := by rw [← e3]; rfl
          have ws : (wh != sa) = !b4 := by rw [← e4]; rfl
          clear e2 e3 e4 HV
          have c8 : (wr.alloc (.cells #[.int .i64 ki, .int .i64 (m : Int), .int .i64 wh] 80)).cell? ⟨g1, o1 + m * 4 + 3, none⟩ = some (.int .i64 sa) := (((Below.refl wr.heap.size wr).alloc (Nat.le_refl _) (.cells #[.int .i64 ki, .int .i64 (m : Int), .int .i64 wh] 80)).cell (p := ⟨g1, o1 + m * 4 + 3, none⟩) (lt_of_cell c7)).trans c7
          cases b2 <;> cases b3 <;> cases b4
          all_goals
            go_wp2_with fail
            go_region
          all_goals first
            | (have HV2 : Hid (t = false) := NO.out HV3.out.symm
               go_wp2
               go_ret
               exact ⟨by rw [HV2.out]; rfl, BV.out.drew⟩)
            | (have HV2 : Hid (b = true) := HV3.out.symm
               go_wp2
               go_roundw
               case rel => exact ⟨j + 1, by omega, by go_num, HSN.out.trans HV2.out, BA.out.drew⟩
               case measure => simp [intOf]; omega)
        · have HBB : Hid (ls.all (slipB cs) = true) := by show _ = _; have := HA.out; rw [List.take_of_length_le (by omega)] at this; exact this
          have HV : Hid ((decide (cs.length ≤ 6) && (decide (0 ≤ now ∧ now ≤ 200) && decide (ls.length ≤ 30))) = t) := by show _ = _; have h := HT.out; rw [HAA.out, HBB.out, Bool.true_and, Bool.true_and] at h; exact h
          clear HA HB HAA HBB
          obtain ⟨b1, e1⟩ : ∃ b, decide (cs.length ≤ 6) = b := ⟨_, rfl⟩
          obtain ⟨b2, e2⟩ : ∃ b, decide (0 ≤ now ∧ now ≤ 200) = b := ⟨_, rfl⟩
          obtain ⟨b3, e3⟩ : ∃ b, decide (ls.length ≤ 30) = b := ⟨_, rfl⟩
          rw [e1, e2, e3] at HV
          have E2 := hid e2
          have d1 : decide ((cs.length : Int) ≤ 6) = b1 := by rw [← e1]; simp; omega
          have d3 : decide ((ls.length : Int) ≤ 30) = b3 := by rw [← e3]; simp; omega
          clear e1 e2 e3
          cases b1
          · have HV2 : Hid (t = false) := HV.out.symm
            go_wp2
            go_ret
            exact ⟨by rw [HV2.out]; rfl, BX.out⟩
          go_wp2_with fail
          refine (l1In_eq _ _ _ b2 E2.out _).mono ?_
          rintro e w' ⟨rfl, hw⟩; obtain rfl := hw.symm
          cases b2
          · have HV2 : Hid (t = false) := HV.out.symm
            go_wp2
            go_ret
            exact ⟨by rw [HV2.out]; rfl, BX.out⟩
          have HV2 : Hid (b3 = t) := HV.out
          go_wp2
          go_ret
          exact ⟨by rw [← HV2.out]; first | rfl | simp, BX.out⟩
end Go.Proofs.Ytdlkilacnnjglaa
