/-
  spec.GoodGreet: whether a greeting is good. Nothing old is written.
-/
import Derived.Test.YtgdclnejlhfhlanSGr1
import Derived.Test.YtgdclnejlhfhlanHeApp2
import Derived.Deep.RegionWith
namespace Go.Proofs.Ytgdclnejlhfhlan
open Go.RowKit

theorem he_any_take (f : HeEl → Bool) (xs : List HeEl) (k : Nat) (hk : k < xs.length) : (xs.take (k + 1)).all f = ((xs.take k).all f && f (xs.getD k (0, 0, 0))) := by
  rw [List.take_succ_eq_append_getElem hk, List.all_append]
  simp [List.getD_eq_getElem?_getD, hk]
theorem he_all_no {f : HeEl → Bool} {xs : List HeEl} (k : Nat) (hk : k < xs.length) (h : f (xs.getD k (0, 0, 0)) = false) : xs.all f = false := by
  rw [List.all_eq_false]
  exact ⟨xs.getD k (0, 0, 0), by simp [List.getD_eq_getElem?_getD, hk], by rw [h]; decide⟩
set_option maxRecDepth 100000 in
set_option maxHeartbeats 16000000 in
theorem sgoodGr_eq (v : Value) (D : GrD) (t : Bool) (h : goodG D = t) (w : World) (hr : GrReads w v D) :
    Calls Try.prog 10 #[v] w fun e w' => e = .returned (.bool t) ∧ Below w.heap.size w w' := by
  obtain ⟨v8, v9, v10, rfl, r8, r9, r10⟩ := hr
  have R8 := hid r8
  have R9 := hid r9
  have R10 := hid r10
  obtain ⟨a8, p8, rfl, l8, _⟩ := r8
  obtain ⟨a9, p9, rfl, l9, _⟩ := r9
  obtain ⟨a10, p10, rfl, l10, _⟩ := r10
  obtain ⟨z0, z1, z2, z3, z4, z5, z6, z7, L8, L9, L10⟩ := D
  simp only at R8 R9 R10 l8 l9 l10
  unfold goodG numsB at h
  simp only at h ⊢
  obtain ⟨b1, e1⟩ : ∃ b, decide (0 ≤ z0 ∧ z0 ≤ 2) = b := ⟨_, rfl⟩
  obtain ⟨b2, e2⟩ : ∃ b, decide (0 ≤ z1 ∧ z1 ≤ 2) = b := ⟨_, rfl⟩
  obtain ⟨b3, e3⟩ : ∃ b, decide (0 ≤ z6 ∧ z6 ≤ 1000) = b := ⟨_, rfl⟩
  obtain ⟨b4, e4⟩ : ∃ b, decide (0 ≤ z7 ∧ z7 ≤ 1000) = b := ⟨_, rfl⟩
  obtain ⟨b5, e5⟩ : ∃ b, decide (L8.length ≤ 30) = b := ⟨_, rfl⟩
  obtain ⟨b6, e6⟩ : ∃ b, decide (L9.length ≤ 300) = b := ⟨_, rfl⟩
  obtain ⟨b7, e7⟩ : ∃ b, decide (L10.length ≤ 300) = b := ⟨_, rfl⟩
  obtain ⟨y0, f0⟩ : ∃ b, decide (z0 = 0) = b := ⟨_, rfl⟩
  obtain ⟨y1, f1⟩ : ∃ b, decide (z0 < 2) = b := ⟨_, rfl⟩
  obtain ⟨y2, f2⟩ : ∃ b, decide (z1 = 0) = b := ⟨_, rfl⟩
  obtain ⟨b8, e8⟩ : ∃ b, gv0 z2 z6 y0 = b := ⟨_, rfl⟩
  obtain ⟨b9, e9⟩ : ∃ b, gv0 z5 z7 y1 = b := ⟨_, rfl⟩
  obtain ⟨b10, e10⟩ : ∃ b, gv0 z4 z6 y2 = b := ⟨_, rfl⟩
  obtain ⟨b11, e11⟩ : ∃ b, gv0 z3 z7 y2 = b := ⟨_, rfl⟩
  rw [e1, e2, e3, e4, e5, e6, e7, f0, f1, f2, e8, e9, e10, e11] at h
  have HT := hid h
  have E1 := hid e1
  have E2 := hid e2
  have E3 := hid e3
  have E4 := hid e4
  have E5 := hid e5
  have E6 := hid e6
  have E7 := hid e7
  have E8 := hid e8
  have E9 := hid e9
  have E10 := hid e10
  have E11 := hid e11
  have F0 : Hid ((z0 == 0) = y0) := by show _ = _; rw [← f0]; rfl
  have F1 := hid f1
  have F2 : Hid ((z1 == 0) = y2) := by show _ = _; rw [← f2]; rfl
  have D5 : Hid (decide ((L8.length : Int) > 30) = !b5) := by show _ = _; rw [← e5]; simp [← decide_not]; omega
  have D6 : Hid (decide ((L9.length : Int) > 300) = !b6) := by show _ = _; rw [← e6]; simp [← decide_not]; omega
  have D7 : Hid (decide ((L10.length : Int) > 300) = !b7) := by show _ = _; rw [← e7]; simp [← decide_not]; omega
  clear h e1 e2 e3 e4 e5 e6 e7 f0 f1 f2 e8 e9 e10 e11
  have PB := hid (boxL_new w [.int .i64 z0, .int .i64 z1, .int .i64 z2, .int .i64 z3, .int .i64 z4, .int .i64 z5, .int .i64 z6, .int .i64 z7, .slice a8 L8.length p8, .slice a9 L9.length p9, .slice a10 L10.length p10] 29)
  have BW : Hid (Below w.heap.size w (w.alloc (.cells #[.int .i64 z0, .int .i64 z1, .int .i64 z2, .int .i64 z3, .int .i64 z4, .int .i64 z5, .int .i64 z6, .int .i64 z7, .slice a8 L8.length p8, .slice a9 L9.length p9, .slice a10 L10.length p10] 29))) := (Below.refl _ _).alloc (Nat.le_refl _) _
  obtain ⟨W0, hW0⟩ : ∃ W, W = w.alloc (.cells #[.int .i64 z0, .int .i64 z1, .int .i64 z2, .int .i64 z3, .int .i64 z4, .int .i64 z5, .int .i64 z6, .int .i64 z7, .slice a8 L8.length p8, .slice a9 L9.length p9, .slice a10 L10.length p10] 29) := ⟨_, rfl⟩
  rw [← hW0] at PB BW
  have HW0 := hid hW0
  obtain ⟨q0, q1, q2, q3, q4, q5, q6, q7, q8, q9, q10⟩ := PB.out.eleven
  rw [hW0] at q0 q1 q2 q3 q4 q5 q6 q7 q8 q9 q10
  clear hW0
  have d5 := D5.out
  have d6 := D6.out
  have d7 := D7.out
  go_enter Try.func10, Try.ntmps10
  go_wp2_with fail
  rw [← HW0.out] at q0 q1 q2 q3 q4 q5 q6 q7 q8 q9 q10 ⊢
  clear HW0
  refine (l1In_eq _ _ _ b1 E1.out _).mono ?_
  rintro e w' ⟨rfl, hw⟩; obtain rfl := hw.symm
  cases b1
  · have HV : Hid (t = false) := HT.out.symm
    go_wp2
    go_ret
    exact ⟨by rw [HV.out]; rfl, BW.out⟩
  go_wp2_with fail
  refine (l1In_eq _ _ _ b2 E2.out _).mono ?_
  rintro e w' ⟨rfl, hw⟩; obtain rfl := hw.symm
  cases b2
  · have HV : Hid (t = false) := HT.out.symm
    go_wp2
    go_ret
    exact ⟨by rw [HV.out]; rfl, BW.out⟩
  go_wp2_with fail
  refine (l1In_eq _ _ _ b3 E3.out _).mono ?_
  rintro e w' ⟨rfl, hw⟩; obtain rfl := hw.symm
  cases b3
  · have HV : Hid (t = false) := HT.out.symm
    go_wp2
    go_ret
    exact ⟨by rw [HV.out]; rfl, BW.out⟩
  go_wp2_with fail
  refine (l1In_eq _ _ _ b4 E4.out _).mono ?_
  rintro e w' ⟨rfl, hw⟩; obtain rfl := hw.symm
  cases b4
  · have HV : Hid (t = false) := HT.out.symm
    go_wp2
    go_ret
    exact ⟨by rw [HV.out]; rfl, BW.out⟩
  cases b5
  · have HV : Hid (t = false) := HT.out.symm
    go_wp2
    go_ret
    exact ⟨by rw [HV.out]; rfl, BW.out⟩
  cases b6
  · have HV : Hid (t = false) := HT.out.symm
    go_wp2
    go_ret
    exact ⟨by rw [HV.out]; rfl, BW.out⟩
  cases b7
  · have HV : Hid (t = false) := HT.out.symm
    go_wp2
    go_ret
    exact ⟨by rw [HV.out]; rfl, BW.out⟩
  have n9 : L9.length ≤ 300 := by have := E6.out; rwa [decide_eq_true_eq] at this
  have n10 : L10.length ≤ 300 := by have := E7.out; rwa [decide_eq_true_eq] at this
  go_wp2_with fail
  rw [F0.out]
  refine (l15Of_eq _ _ _ b8 E8.out _).mono ?_
  rintro e w' ⟨rfl, hw⟩; obtain rfl := hw.symm
  cases b8
  · have HV : Hid (t = false) := HT.out.symm
    go_wp2
    go_ret
    exact ⟨by rw [HV.out]; rfl, BW.out⟩
  go_wp2_with fail
  rw [F1.out]
  refine (l15Of_eq _ _ _ b9 E9.out _).mono ?_
  rintro e w' ⟨rfl, hw⟩; obtain rfl := hw.symm
  cases b9
  · have HV : Hid (t = false) := HT.out.symm
    go_wp2
    go_ret
    exact ⟨by rw [HV.out]; rfl, BW.out⟩
  go_wp2_with fail
  rw [F2.out]
  refine (l15Of_eq _ _ _ b10 E10.out _).mono ?_
  rintro e w' ⟨rfl, hw⟩; obtain rfl := hw.symm
  cases b10
  · have HV : Hid (t = false) := HT.out.symm
    go_wp2
    go_ret
    exact ⟨by rw [HV.out]; rfl, BW.out⟩
  go_wp2_with fail
  rw [F2.out]
  refine (l15Of_eq _ _ _ b11 E11.out _).mono ?_
  rintro e w' ⟨rfl, hw⟩; obtain rfl := hw.symm
  cases b11
  · have HV : Hid (t = false) := HT.out.symm
    go_wp2
    go_ret
    exact ⟨by rw [HV.out]; rfl, BW.out⟩
  have HT2 : Hid ((L8.all (letB z6 z7) && (L9 ++ L10).all (ackB z6 z7)) = t) := HT.out
  clear HT E1 E2 E3 E4 E5 E6 E7 E8 E9 E10 E11 F0 F1 F2 D5 D6 D7 d5 d6 d7
  go_wp2
  clear q0 q1 q2 q3 q4 q5 q6 q7 q8 q9 q10
  go_loopw [92] (fun i wr => ∃ k : Nat, k ≤ L8.length ∧ i = .int .i64 k ∧ (L8.take k).all (letB z6 z7) = true ∧ Below W0.heap.size W0 wr) (fun i _ => L8.length - (intOf i).toNat)
  case atStart => exact ⟨0, Nat.zero_le _, rfl, rfl, Below.refl _ _⟩
  case round =>
    obtain ⟨k, hk, rfl, hu, hb⟩ := hrel
    have HU := hid hu
    have HB := hid hb
    have HBW := hid (BW.out.trans (hb.mono BW.out.size))
    clear hu hb
    by_cases hlt : k < L8.length
    · obtain ⟨g, o, cap', e, hc⟩ := (R8.out.below HBW.out).cells k hlt
      cases e
      obtain ⟨x, hx⟩ : ∃ x, x = L8.getD k (0, 0, 0) := ⟨_, rfl⟩
      obtain ⟨c0, c1, c2⟩ := hc k hlt
      rw [← hx] at c0 c1 c2
      obtain ⟨b12, e12⟩ : ∃ b, letB z6 z7 x = b := ⟨_, rfl⟩
      have E12 := hid e12
      have HS : Hid ((L8.take (k + 1)).all (letB z6 z7) = b12) := by show _ = _; rw [he_any_take _ _ _ hlt, HU.out, ← hx, e12]; rfl
      have HF : Hid (b12 = false → t = false) := fun h => by rw [← HT2.out, he_all_no k hlt (by rw [← hx, e12, h])]; rfl
      obtain ⟨q0, q1, q2, q3, q4, q5, q6, q7, q8, q9, q10⟩ := (PB.out.below (HB.out.alloc HB.out.size (.cells #[.int .i64 x.1, .int .i64 x.2.1, .int .i64 x.2.2] 61)) PB.out.lt).eleven
      clear e12 hc hx
      go_wp2_with fail
      refine (l15Letter_eq z6 z7 _ _ _ _ _ _ _ _ _ x b12 E12.out _).mono ?_
      rintro e w2 ⟨rfl, b5⟩
      have HB5 := hid ((HB.out.alloc HB.out.size _).trans (b5.mono (by have := HB.out.size; simp; omega)))
      clear b5 q0 q1 q2 q3 q4 q5 q6 q7 q8 q9 q10
      cases b12
      · have HV : Hid (t = false) := HF.out rfl
        go_wp2
        go_ret
        exact ⟨by rw [HV.out]; rfl, BW.out.trans (HB5.out.mono BW.out.size)⟩
      · go_wp2
        go_roundw
        case rel => exact ⟨k + 1, by omega, by go_num, HS.out, HB5.out⟩
        case measure => simp [intOf]; omega
    · have HL : Hid (L8.all (letB z6 z7) = true) := by show _ = _; have h := HU.out; rw [List.take_of_length_le (by omega)] at h; exact h
      have HT3 : Hid ((L9 ++ L10).all (ackB z6 z7) = t) := by show _ = _; rw [← HT2.out, HL.out]; rfl
      obtain ⟨q0, q1, q2, q3, q4, q5, q6, q7, q8, q9, q10⟩ := (PB.out.below HB.out PB.out.lt).eleven
      clear HT2
      go_wp2_with fail
      have hws : w.heap.size ≤ wr.heap.size := HBW.out.size
      have RW9 := hid (R9.out.below HBW.out)
      have RW10 := hid (R10.out.below HBW.out)
      have hwlt : w.heap.size < wr.heap.size := Nat.lt_of_lt_of_le PB.out.lt HB.out.size
      have PBR := hid (PB.out.below HB.out PB.out.lt)
      obtain ⟨_, _, _, _, _, _, _, _, _, p9a, p10a⟩ := (PBR.out.below ((Below.refl wr.heap.size wr).alloc (Nat.le_refl _) (.cells #[] 61)) hwlt).eleven
      go_region_law (first
        | (change (if Region.wanted (Oper.mk (some 104) _ _ _ _ _) _ = true then _ else _); refine step_append_he (by rfl) _ _ (by rfl) wr.heap.size _ 0 [] (by rfl) (heowns_lit _ _ (by simp)) _ L9 (by rfl) (RW9.out.below (by go_grown)) (by simp; omega) (by simp) ?_; intro v4 w4 ho4 hg4 hat4; obtain ⟨a4, c4, rfl, _⟩ := heowns_form ho4; rw [Nat.zero_add, List.nil_append] at ho4; have O4 := hid ho4; have B4 : Hid (Below wr.heap.size wr w4) := (show Below wr.heap.size wr _ by go_grown).grown hg4 (by simp) (by intro k hk; simp [Value.ownBlock] at hk; omega); obtain ⟨_, _, _, _, _, _, _, _, _, _, p10b⟩ := (PBR.out.below B4.out hwlt).eleven; clear ho4 hg4 hat4)
        | (change (if Region.wanted (Oper.mk (some 107) _ _ _ _ _) _ = true then _ else _); refine step_append_he (by rfl) _ _ (by rfl) wr.heap.size _ L9.length L9 (by rfl) O4.out _ L10 (by rfl) (RW10.out.below B4.out) (by omega) (B4.out.size) ?_; intro v7 w7 ho7 hg7 hat7; obtain ⟨a7, c7, rfl, _⟩ := heowns_form ho7; obtain ⟨n7, hn7⟩ : ∃ n, n = L9.length + L10.length := ⟨_, rfl⟩; rw [← hn7] at ho7 ⊢; have O7 := hid ho7; have HN7 := hid hn7; have B7 : Hid (Below wr.heap.size wr w7) := B4.out.grown hg7 B4.out.size (by intro k hk; exact (heowns_lt O4.out k hk).1); clear ho7 hg7 hat7 hn7))
      all_goals
        have HB7 := hid (HB.out.trans (B7.out.mono HB.out.size))
        have BW7 := hid (BW.out.trans (HB7.out.mono BW.out.size))
        obtain ⟨LL, hLL⟩ : ∃ LL, LL = L9 ++ L10 := ⟨_, rfl⟩
        have hnl : LL.length = n7 := by rw [hLL, List.length_append, HN7.out]
        have hn6 : n7 ≤ 600 := by have := HN7.out; omega
        rw [← hLL] at HT3 O7
        have RL : Hid (HeReads w7 (.slice a7 n7 c7) LL) := HeReads.of_owns O7.out (by omega)
        have HNL := hid hnl
        clear hLL hnl HN7 O7 B7 O4 B4 q0 q1 q2 q3 q4 q5 q6 q7 q8 q9 q10 p9a p10a p10b PBR HB HU HBW
        go_wp2
        go_simp
        go_loopw [109] (fun i wr => ∃ k : Nat, k ≤ n7 ∧ i = .int .i64 k ∧ (LL.take k).all (ackB z6 z7) = true ∧ Below w7.heap.size w7 wr) (fun i _ => n7 - (intOf i).toNat)
        case atStart => exact ⟨0, Nat.zero_le _, rfl, rfl, Below.refl _ _⟩
        case round =>
          rename World => wq
          obtain ⟨k, hk, rfl, hu, hb⟩ := hrel
          have HU := hid hu
          have HB := hid hb
          have HBW := hid (BW7.out.trans (hb.mono BW7.out.size))
          clear hu hb
          by_cases hlt2 : k < n7
          · have hlt3 : k < LL.length := by have := HNL.out; omega
            obtain ⟨g, o, cap', e, hc⟩ := (RL.out.below HB.out).cells k hlt3
            rw [HNL.out] at e
            cases e
            obtain ⟨x, hx⟩ : ∃ x, x = LL.getD k (0, 0, 0) := ⟨_, rfl⟩
            obtain ⟨c0, c1, c2⟩ := hc k hlt3
            rw [← hx] at c0 c1 c2
            obtain ⟨d, hd⟩ : ∃ d, decide (x.1 = 3) = d := ⟨_, rfl⟩
            obtain ⟨b12, e12⟩ : ∃ b, letB z6 z7 x = b := ⟨_, rfl⟩
            have E12 := hid e12
            have HS : Hid ((LL.take (k + 1)).all (ackB z6 z7) = (d && b12)) := by show _ = _; rw [he_any_take _ _ _ hlt3, HU.out, ← hx, ackB, hd, e12]; rfl
            have HF : Hid ((d && b12) = false → t = false) := fun h => by rw [← HT3.out, he_all_no k hlt3 (by rw [← hx, ackB, hd, e12, h])]
            have hdx : (x.1 != 3) = !d := by rw [← hd]; rfl
            have hlw : w.heap.size < w7.heap.size := Nat.lt_of_lt_of_le PB.out.lt HB7.out.size
            obtain ⟨q0, q1, q2, q3, q4, q5, q6, q7, q8, q9, q10⟩ := ((PB.out.below HB7.out PB.out.lt).below (HB.out.alloc HB.out.size (.cells #[.int .i64 x.1, .int .i64 x.2.1, .int .i64 x.2.2] 61)) hlw).eleven
            clear e12 hc hx hd
            cases d
            · have HV : Hid (t = false) := HF.out rfl
              have BWA := hid (HBW.out.alloc HBW.out.size (.cells #[.int .i64 x.1, .int .i64 x.2.1, .int .i64 x.2.2] 61))
              go_wp2
              go_ret
              exact ⟨by rw [HV.out]; rfl, BWA.out⟩
            go_wp2_with fail
            refine (l15Letter_eq z6 z7 _ _ _ _ _ _ _ _ _ x b12 E12.out _).mono ?_
            rintro e w2 ⟨rfl, b5⟩
            have HB5 := hid ((HB.out.alloc HB.out.size _).trans (b5.mono (by have := HB.out.size; simp; omega)))
            clear b5 q0 q1 q2 q3 q4 q5 q6 q7 q8 q9 q10
            cases b12
            · have HV : Hid (t = false) := HF.out rfl
              go_wp2
              go_ret
              exact ⟨by rw [HV.out]; rfl, BW7.out.trans (HB5.out.mono BW7.out.size)⟩
            · go_wp2
              go_roundw
              case rel => exact ⟨k + 1, by omega, by go_num, HS.out, HB5.out⟩
              case measure => simp [intOf]; omega
          · have HV : Hid (t = true) := by show _ = _; rw [← HT3.out]; have h := HU.out; rw [List.take_of_length_le (by have := HNL.out; omega)] at h; exact h
            go_wp2
            go_ret
            exact ⟨by rw [HV.out]; rfl, HBW.out⟩
end Go.Proofs.Ytgdclnejlhfhlan
