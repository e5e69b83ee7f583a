/-
  The law FnHeard answers true at every two lists of bytes.
-/
import Derived.Test.YtnkpboobfkjibadDrawHearS
import Derived.Test.YtnkpboobfkjibadRows2
import Derived.Test.YtnkpboobfkjibadIHear
import Derived.Test.YtnkpboobfkjibadIOpen11
import Derived.Test.YtnkpboobfkjibadKOwnS
import Derived.Test.YtnkpboobfkjibadISendNext
import Derived.Test.YtnkpboobfkjibadSSendNext
import Derived.Test.YtnkpboobfkjibadIGoodSd
import Derived.Test.YtnkpboobfkjibadLenFacts
import Derived.Test.YtnkpboobfkjibadKIntRows
import Derived.Test.YtnkpboobfkjibadPlayMath
import Derived.Test.YtnkpboobfkjibadBits
namespace Go.Proofs.Ytnkpboobfkjibad
open Go.RowKit

theorem code_after11 {w w' : World} {v : Value} (h : CodeOk w.heap.size w v) (hb : Below w.heap.size w w') : CodeOk w'.heap.size w' v := code_up11 h hb hb.size
theorem kform11 {w : World} {v : Value} {xs : List Int} (h : KReads w v xs) : ∃ a c, v = .slice a xs.length c := by obtain ⟨a, c, e, _⟩ := h; exact ⟨a, c, e⟩
theorem spform11 {w : World} {v : Value} {xs : List Sp} (h : SpReads w v xs) : ∃ a c, v = .slice a xs.length c := by obtain ⟨a, c, e, _⟩ := h; exact ⟨a, c, e⟩
theorem sd_parts {w : World} {z : Int} {v1 v2 : Value} {D : SdD} (h : SdReads w (.agg #[.int .i64 z, v1, v2]) D) : SpReads w v1 D.f1 ∧ KReads w v2 D.f2 := by
  obtain ⟨v1', v2', e, h1, h2⟩ := h
  simp at e
  obtain ⟨_, rfl, rfl⟩ := e
  exact ⟨h1, h2⟩
theorem hearLa_len {D : SdD} {l : List Sp} (h : hearB D l = true) : (hearLa D l).length ≤ 60 := by
  unfold hearLa
  rw [h]
  have h1 := selU_len (lateF (joinL D.f1 l) D.f2) D.f0.toNat
  have h2 : goodSd D = true := by unfold hearB at h; rw [Bool.and_eq_true] at h; exact h.1
  have h3 := (goodSd_few h2).1
  show (selU (lateF (joinL D.f1 l) D.f2) D.f0.toNat).length ≤ 60
  omega
theorem next_good {E : SdD} (h : nextB E = true) : goodSd (nextSd E) = true := by
  have e : nextSd E = ⟨E.f0 + 1, E.f1, E.f2⟩ := by unfold nextSd; rw [h]; rfl
  unfold nextB at h
  rw [Bool.and_eq_true, decide_eq_true_eq] at h
  obtain ⟨hg, h60⟩ := h
  have hf := (goodSd_few hg).1
  obtain ⟨g1, g2⟩ := goodSd_parts hg
  have hn : noneU E.f1 E.f2 E.f2.length = true := by unfold goodSd at hg; rw [Bool.and_eq_true, Bool.and_eq_true, Bool.and_eq_true] at hg; exact hg.2.2.2
  have b1 : belB E.f1 (E.f0 + 1) = true := by
    unfold belB at g1 ⊢
    rw [Bool.and_eq_true, Bool.or_eq_true, decide_eq_true_eq, decide_eq_true_eq] at g1 ⊢
    exact ⟨g1.1, g1.2.imp id (fun h => by omega)⟩
  have b2 : risB E.f2 (E.f0 + 1) = true := by
    unfold risB at g2 ⊢
    rw [risU_iff] at g2 ⊢
    exact fun i hi => ⟨⟨(g2 i hi).1.1, by have := (g2 i hi).1.2; omega⟩, (g2 i hi).2⟩
  rw [e]
  show (decide (0 ≤ E.f0 + 1 ∧ E.f0 + 1 ≤ 60) && (belB E.f1 (E.f0 + 1) && (risB E.f2 (E.f0 + 1) && noneU E.f1 E.f2 E.f2.length))) = true
  rw [b1, b2, hn, decide_eq_true (by omega)]
  rfl
set_option maxRecDepth 100000 in
set_option maxHeartbeats 40000000 in
theorem FnHeard_walk (a0 : Option Addr) (len0 cap0 : Nat) (z0 : List Int) (a1 : Option Addr) (len1 cap1 : Nat) (z1 : List Int) (w : World) (h0 : IsRow .u8 w a0 len0 cap0 z0) (h1 : IsRow .u8 w a1 len1 cap1 z1) (b0 : cap0 * 1 ≤ 140737488351232) (b1 : cap1 * 1 ≤ 140737488351232) :
    Calls Try.prog 5 #[.slice a0 len0 cap0, .slice a1 len1 cap1] w fun e w' => e = .returned (.bool true) ∧ Below w.heap.size w w' := by
  have l0 : len0 ≤ cap0 := by rcases h0 with ⟨_, rfl, rfl, _⟩ | ⟨x, _, h, _⟩ <;> omega
  have l1 : len1 ≤ cap1 := by rcases h1 with ⟨_, rfl, rfl, _⟩ | ⟨x, _, h, _⟩ <;> omega
  by_cases hbig : (1048576 : Int) < (len0 : Int) + (len1 : Int)
  · clear h0 h1
    go_enter Try.func5, Try.ntmps5
    go_wp2
    go_ret
    exact ⟨rfl, Below.refl _ _⟩
  have HC0 := hid (code_of_row h0 (by omega))
  have HC1 := hid (code_of_row h1 (by omega))
  clear h0 h1
  go_enter Try.func5, Try.ntmps5
  have BE : Hid (Below w.heap.size w w) := Below.refl _ _
  go_wp2_with fail
  refine (drawHear_any _ _ HC0.out).mono ?_
  rintro e w1 ⟨u, ul, rfl, D, l, sd, rl, bb⟩
  obtain ⟨a1, n1, k1, a2, n2, k2, rfl⟩ := sd.form
  obtain ⟨la, lc, rfl⟩ := spform11 rl
  obtain ⟨z5, hz5⟩ : ∃ z, D.f0 = z := ⟨_, rfl⟩
  have R5 := hid sd.reads
  have RL := hid rl
  rw [hz5] at R5
  rw [hz5]
  have HZ5 := hid hz5
  clear sd rl HC0 hz5
  replace BE := hid (BE.out.trans (bb.mono BE.out.size))
  clear bb
  obtain ⟨PN, BN, _⟩ := box_three (w := w1) (.int .i64 z5) (.slice a1 n1 k1) (.slice a2 n2 k2) 49
  obtain ⟨W1, hW1⟩ : ∃ W, W = w1.alloc (.cells #[.int .i64 z5, .slice a1 n1 k1, .slice a2 n2 k2] 49) := ⟨_, rfl⟩
  rw [← hW1] at PN BN
  replace R5 := hid (R5.out.below BN)
  replace RL := hid (RL.out.below BN)
  replace BE := hid (BE.out.trans (BN.mono BE.out.size))
  obtain ⟨b5, hb5⟩ : ∃ b, w1.heap.size = b := ⟨_, rfl⟩
  rw [hb5] at PN
  have X5 := hid PN
  have HW1 := hid hW1
  clear PN BN
  obtain ⟨X, hX⟩ : ∃ x, hearSd D l = x := ⟨_, rfl⟩
  have HX := hid hX
  clear hX
  obtain ⟨F, hF⟩ : ∃ x, hearFr D l = x := ⟨_, rfl⟩
  have HF := hid hF
  clear hF
  obtain ⟨LA, hLA⟩ : ∃ x, hearLa D l = x := ⟨_, rfl⟩
  have HLA := hid hLA
  clear hLA
  obtain ⟨tb, htb⟩ : ∃ x, hearB D l = x := ⟨_, rfl⟩
  have Htb := hid htb
  clear htb
  obtain ⟨OP, hOP⟩ : ∃ x, openL D = x := ⟨_, rfl⟩
  have HOP := hid hOP
  clear hOP
  obtain ⟨gd, hgd⟩ : ∃ x, goodSd D = x := ⟨_, rfl⟩
  have Hgd := hid hgd
  clear hgd
  obtain ⟨x50, x51, x52⟩ := X5.out.three
  rw [hW1] at x50 x51 x52
  go_wp2_with fail
  clear x50 x51 x52
  rw [← HW1.out]
  try rw [hb5]
  clear hW1 HW1
  refine (ihear_any _ _ D l _ R5.out RL.out X F LA tb HX.out HF.out HLA.out Htb.out).mono ?_
  rintro e w2 ⟨u0, u1, u2, S0, S1, S2, rfl, o0, o1, o2, _, _, bb⟩
  obtain ⟨c1, d1, e1, c2, d2, e2, rfl⟩ := o0.form
  obtain ⟨c3, e3, rfl⟩ := kform11 o1.reads
  obtain ⟨c4, e4, rfl⟩ := kform11 o2.reads
  obtain ⟨z7, hz7⟩ : ∃ z, X.f0 = z := ⟨_, rfl⟩
  have R7 := hid o0.reads
  rw [hz7] at R7
  rw [hz7]
  have RF := hid o1.reads
  have RA := hid o2.reads
  have HZ7 := hid hz7
  clear o0 o1 o2 hz7
  replace R5 := hid (R5.out.below bb)
  replace RL := hid (RL.out.below bb)
  replace X5 := hid (X5.out.below bb X5.out.lt)
  replace BE := hid (BE.out.trans (bb.mono BE.out.size))
  clear bb
  obtain ⟨PN, BN, _⟩ := box_three (w := w2) (.int .i64 z7) (.slice c1 d1 e1) (.slice c2 d2 e2) 49
  obtain ⟨W2, hW2⟩ : ∃ W, W = w2.alloc (.cells #[.int .i64 z7, .slice c1 d1 e1, .slice c2 d2 e2] 49) := ⟨_, rfl⟩
  rw [← hW2] at PN BN
  replace R5 := hid (R5.out.below BN)
  replace RL := hid (RL.out.below BN)
  replace X5 := hid (X5.out.below BN X5.out.lt)
  replace R7 := hid (R7.out.below BN)
  replace RF := hid (RF.out.below BN)
  replace RA := hid (RA.out.below BN)
  replace BE := hid (BE.out.trans (BN.mono BE.out.size))
  obtain ⟨b7, hb7⟩ : ∃ b, w2.heap.size = b := ⟨_, rfl⟩
  rw [hb7] at PN
  have X7 := hid PN
  have HW2 := hid hW2
  clear PN BN
  obtain ⟨x50, x51, x52⟩ := X5.out.three
  rw [hW2] at x50 x51 x52
  obtain ⟨x70, x71, x72⟩ := X7.out.three
  rw [hW2] at x70 x71 x72
  go_wp2_with fail
  clear x50 x51 x52 x70 x71 x72
  rw [← HW2.out]
  try rw [hb7]
  clear hW2 HW2
  refine (shear_any _ _ D l _ R5.out RL.out X F LA tb HX.out HF.out HLA.out Htb.out).mono ?_
  rintro e w3 ⟨u0, u1, u2, S0, S1, S2, rfl, o0, o1, o2, _, _, bb⟩
  obtain ⟨c5, d5, e5, c6, d6, e6, rfl⟩ := o0.form
  obtain ⟨c7, e7, rfl⟩ := kform11 o1.reads
  obtain ⟨c8, e8, rfl⟩ := kform11 o2.reads
  have R11 := hid o0.reads
  rw [HZ7.out] at R11
  rw [HZ7.out]
  have RF2 := hid o1.reads
  have RA2 := hid o2.reads
  clear o0 o1 o2
  replace R5 := hid (R5.out.below bb)
  replace RL := hid (RL.out.below bb)
  replace X5 := hid (X5.out.below bb X5.out.lt)
  replace R7 := hid (R7.out.below bb)
  replace RF := hid (RF.out.below bb)
  replace RA := hid (RA.out.below bb)
  replace X7 := hid (X7.out.below bb X7.out.lt)
  replace BE := hid (BE.out.trans (bb.mono BE.out.size))
  clear bb
  obtain ⟨PN, BN, _⟩ := box_three (w := w3) (.int .i64 z7) (.slice c5 d5 e5) (.slice c6 d6 e6) 49
  obtain ⟨W3, hW3⟩ : ∃ W, W = w3.alloc (.cells #[.int .i64 z7, .slice c5 d5 e5, .slice c6 d6 e6] 49) := ⟨_, rfl⟩
  rw [← hW3] at PN BN
  replace R5 := hid (R5.out.below BN)
  replace RL := hid (RL.out.below BN)
  replace X5 := hid (X5.out.below BN X5.out.lt)
  replace R7 := hid (R7.out.below BN)
  replace RF := hid (RF.out.below BN)
  replace RA := hid (RA.out.below BN)
  replace X7 := hid (X7.out.below BN X7.out.lt)
  replace R11 := hid (R11.out.below BN)
  replace RF2 := hid (RF2.out.below BN)
  replace RA2 := hid (RA2.out.below BN)
  replace BE := hid (BE.out.trans (BN.mono BE.out.size))
  obtain ⟨b11, hb11⟩ : ∃ b, w3.heap.size = b := ⟨_, rfl⟩
  rw [hb11] at PN
  have X11 := hid PN
  have HW3 := hid hW3
  clear PN BN
  obtain ⟨x50, x51, x52⟩ := X5.out.three
  rw [hW3] at x50 x51 x52
  obtain ⟨x70, x71, x72⟩ := X7.out.three
  rw [hW3] at x70 x71 x72
  obtain ⟨x110, x111, x112⟩ := X11.out.three
  rw [hW3] at x110 x111 x112
  go_wp2_with fail
  clear x50 x51 x52 x70 x71 x72 x110 x111 x112
  rw [← HW3.out]
  try rw [hb11]
  clear hW3 HW3
  refine (iopen_any _ D _ R5.out OP gd HOP.out Hgd.out).mono ?_
  rintro e w4 ⟨uo, rfl, oo, bb⟩
  obtain ⟨c9, e9, rfl⟩ := kform11 oo.reads
  have RO := hid oo.reads
  clear oo
  replace R5 := hid (R5.out.below bb)
  replace RL := hid (RL.out.below bb)
  replace X5 := hid (X5.out.below bb X5.out.lt)
  replace R7 := hid (R7.out.below bb)
  replace RF := hid (RF.out.below bb)
  replace RA := hid (RA.out.below bb)
  replace X7 := hid (X7.out.below bb X7.out.lt)
  replace R11 := hid (R11.out.below bb)
  replace RF2 := hid (RF2.out.below bb)
  replace RA2 := hid (RA2.out.below bb)
  replace X11 := hid (X11.out.below bb X11.out.lt)
  replace BE := hid (BE.out.trans (bb.mono BE.out.size))
  clear bb
  obtain ⟨x50, x51, x52⟩ := X5.out.three
  obtain ⟨x70, x71, x72⟩ := X7.out.three
  obtain ⟨x110, x111, x112⟩ := X11.out.three
  go_wp2_with fail
  clear x50 x51 x52 x70 x71 x72 x110 x111 x112
  refine (sopen_any _ D _ R5.out OP gd HOP.out Hgd.out).mono ?_
  rintro e w5 ⟨uo, rfl, oo, bb⟩
  obtain ⟨c10, e10, rfl⟩ := kform11 oo.reads
  have RO2 := hid oo.reads
  clear oo
  replace R5 := hid (R5.out.below bb)
  replace RL := hid (RL.out.below bb)
  replace X5 := hid (X5.out.below bb X5.out.lt)
  replace R7 := hid (R7.out.below bb)
  replace RF := hid (RF.out.below bb)
  replace RA := hid (RA.out.below bb)
  replace X7 := hid (X7.out.below bb X7.out.lt)
  replace R11 := hid (R11.out.below bb)
  replace RF2 := hid (RF2.out.below bb)
  replace RA2 := hid (RA2.out.below bb)
  replace X11 := hid (X11.out.below bb X11.out.lt)
  replace RO := hid (RO.out.below bb)
  replace BE := hid (BE.out.trans (bb.mono BE.out.size))
  clear bb
  have q1 : (tb != tb) = false := by simp
  have q2 : (gd != gd) = false := by simp
  obtain ⟨x50, x51, x52⟩ := X5.out.three
  obtain ⟨x70, x71, x72⟩ := X7.out.three
  obtain ⟨x110, x111, x112⟩ := X11.out.three
  go_wp2_with fail
  clear x50 x51 x52 x70 x71 x72 x110 x111 x112
  refine (sameSd_same _ _ X _ R7.out R11.out).mono ?_
  rintro e w6 ⟨rfl, bb⟩
  replace R5 := hid (R5.out.below bb)
  replace RL := hid (RL.out.below bb)
  replace X5 := hid (X5.out.below bb X5.out.lt)
  replace R7 := hid (R7.out.below bb)
  replace RF := hid (RF.out.below bb)
  replace RA := hid (RA.out.below bb)
  replace X7 := hid (X7.out.below bb X7.out.lt)
  replace R11 := hid (R11.out.below bb)
  replace RF2 := hid (RF2.out.below bb)
  replace RA2 := hid (RA2.out.below bb)
  replace X11 := hid (X11.out.below bb X11.out.lt)
  replace RO := hid (RO.out.below bb)
  replace RO2 := hid (RO2.out.below bb)
  replace BE := hid (BE.out.trans (bb.mono BE.out.size))
  clear bb R11 X11
  obtain ⟨x50, x51, x52⟩ := X5.out.three
  obtain ⟨x70, x71, x72⟩ := X7.out.three
  go_wp2_with fail
  clear x50 x51 x52 x70 x71 x72
  refine (sameK_same _ _ F _ RF.out RF2.out).mono ?_
  rintro e w7 ⟨rfl, hw⟩
  have bb := sameK_below hw
  replace R5 := hid (R5.out.below bb)
  replace RL := hid (RL.out.below bb)
  replace X5 := hid (X5.out.below bb X5.out.lt)
  replace R7 := hid (R7.out.below bb)
  replace RF := hid (RF.out.below bb)
  replace RA := hid (RA.out.below bb)
  replace X7 := hid (X7.out.below bb X7.out.lt)
  replace RF2 := hid (RF2.out.below bb)
  replace RA2 := hid (RA2.out.below bb)
  replace RO := hid (RO.out.below bb)
  replace RO2 := hid (RO2.out.below bb)
  replace BE := hid (BE.out.trans (bb.mono BE.out.size))
  clear bb hw RF2
  obtain ⟨x50, x51, x52⟩ := X5.out.three
  obtain ⟨x70, x71, x72⟩ := X7.out.three
  go_wp2_with fail
  clear x50 x51 x52 x70 x71 x72
  refine (sameK_same _ _ LA _ RA.out RA2.out).mono ?_
  rintro e w8 ⟨rfl, hw⟩
  have bb := sameK_below hw
  replace R5 := hid (R5.out.below bb)
  replace RL := hid (RL.out.below bb)
  replace X5 := hid (X5.out.below bb X5.out.lt)
  replace R7 := hid (R7.out.below bb)
  replace RF := hid (RF.out.below bb)
  replace RA := hid (RA.out.below bb)
  replace X7 := hid (X7.out.below bb X7.out.lt)
  replace RA2 := hid (RA2.out.below bb)
  replace RO := hid (RO.out.below bb)
  replace RO2 := hid (RO2.out.below bb)
  replace BE := hid (BE.out.trans (bb.mono BE.out.size))
  clear bb hw RA2
  obtain ⟨x50, x51, x52⟩ := X5.out.three
  obtain ⟨x70, x71, x72⟩ := X7.out.three
  go_wp2_with fail
  clear x50 x51 x52 x70 x71 x72
  refine (sameK_same _ _ OP _ RO.out RO2.out).mono ?_
  rintro e w9 ⟨rfl, hw⟩
  have bb := sameK_below hw
  replace R5 := hid (R5.out.below bb)
  replace RL := hid (RL.out.below bb)
  replace X5 := hid (X5.out.below bb X5.out.lt)
  replace R7 := hid (R7.out.below bb)
  replace RF := hid (RF.out.below bb)
  replace RA := hid (RA.out.below bb)
  replace X7 := hid (X7.out.below bb X7.out.lt)
  replace RO := hid (RO.out.below bb)
  replace RO2 := hid (RO2.out.below bb)
  replace BE := hid (BE.out.trans (bb.mono BE.out.size))
  clear bb hw RO2
  obtain ⟨x50, x51, x52⟩ := X5.out.three
  obtain ⟨x70, x71, x72⟩ := X7.out.three
  go_wp2_with fail
  clear x50 x51 x52 x70 x71 x72
  refine (igoodSd_eq _ D gd Hgd.out _ R5.out).mono ?_
  rintro e w10 ⟨rfl, bb⟩
  replace R5 := hid (R5.out.below bb)
  replace RL := hid (RL.out.below bb)
  replace X5 := hid (X5.out.below bb X5.out.lt)
  replace R7 := hid (R7.out.below bb)
  replace RF := hid (RF.out.below bb)
  replace RA := hid (RA.out.below bb)
  replace X7 := hid (X7.out.below bb X7.out.lt)
  replace RO := hid (RO.out.below bb)
  replace BE := hid (BE.out.trans (bb.mono BE.out.size))
  clear bb
  cases tb
  · clear R5 RL X5 R7 RF RA X7 RO
    as_aux_lemma =>
      go_wp2_with fail
      refine (drawSend_any _ _ (code_after11 HC1.out BE.out)).mono ?_
      rintro e t1 ⟨us, rfl, E, sd, bb⟩
      obtain ⟨f1, f2, f3, f4, f5, f6, rfl⟩ := sd.form
      obtain ⟨ez, hez⟩ : ∃ z, E.f0 = z := ⟨_, rfl⟩
      have RE := hid sd.reads
      rw [hez] at RE
      rw [hez]
      have HEZ := hid hez
      clear sd hez
      replace BE := hid (BE.out.trans (bb.mono BE.out.size))
      clear bb
      obtain ⟨PN, BN, _⟩ := box_three (w := t1) (.int .i64 ez) (.slice f1 f2 f3) (.slice f4 f5 f6) 49
      obtain ⟨T1, hT1⟩ : ∃ W, W = t1.alloc (.cells #[.int .i64 ez, .slice f1 f2 f3, .slice f4 f5 f6] 49) := ⟨_, rfl⟩
      rw [← hT1] at PN BN
      replace RE := hid (RE.out.below BN)
      replace BE := hid (BE.out.trans (BN.mono BE.out.size))
      obtain ⟨y1, hy1⟩ : ∃ b, t1.heap.size = b := ⟨_, rfl⟩
      rw [hy1] at PN
      have Y1 := hid PN
      have HT1 := hid hT1
      clear PN BN
      obtain ⟨NX, hNX⟩ : ∃ x, nextSd E = x := ⟨_, rfl⟩
      have HNX := hid hNX
      clear hNX
      obtain ⟨nn, hnn⟩ : ∃ x, nextN E = x := ⟨_, rfl⟩
      have Hnn := hid hnn
      clear hnn
      obtain ⟨nb, hnb⟩ : ∃ x, nextB E = x := ⟨_, rfl⟩
      have Hnb := hid hnb
      clear hnb
      obtain ⟨y10, y11, y12⟩ := Y1.out.three
      rw [hT1] at y10 y11 y12
      go_wp2_with fail
      clear y10 y11 y12
      rw [← HT1.out]
      try rw [hy1]
      clear hT1 HT1
      refine (isendNext_any _ E _ RE.out NX nn nb HNX.out Hnn.out Hnb.out).mono ?_
      rintro e t2 ⟨u0, rfl, o0, bb⟩
      obtain ⟨g1, g2, g3, g4, g5, g6, rfl⟩ := o0.form
      obtain ⟨nz, hnz⟩ : ∃ z, NX.f0 = z := ⟨_, rfl⟩
      have HNZ := hid hnz
      clear hnz
      have RN := hid o0.reads
      rw [HNZ.out] at RN
      rw [HNZ.out]
      clear o0
      replace RE := hid (RE.out.below bb)
      replace Y1 := hid (Y1.out.below bb Y1.out.lt)
      replace BE := hid (BE.out.trans (bb.mono BE.out.size))
      clear bb
      obtain ⟨PN, BN, _⟩ := box_three (w := t2) (.int .i64 nz) (.slice g1 g2 g3) (.slice g4 g5 g6) 49
      obtain ⟨T2, hT2⟩ : ∃ W, W = t2.alloc (.cells #[.int .i64 nz, .slice g1 g2 g3, .slice g4 g5 g6] 49) := ⟨_, rfl⟩
      rw [← hT2] at PN BN
      replace RE := hid (RE.out.below BN)
      replace Y1 := hid (Y1.out.below BN Y1.out.lt)
      replace RN := hid (RN.out.below BN)
      replace BE := hid (BE.out.trans (BN.mono BE.out.size))
      obtain ⟨y2, hy2⟩ : ∃ b, t2.heap.size = b := ⟨_, rfl⟩
      rw [hy2] at PN
      have Y2 := hid PN
      have HT2 := hid hT2
      clear PN BN
      obtain ⟨y10, y11, y12⟩ := Y1.out.three
      rw [hT2] at y10 y11 y12
      obtain ⟨y20, y21, y22⟩ := Y2.out.three
      rw [hT2] at y20 y21 y22
      go_wp2_with fail
      clear y10 y11 y12 y20 y21 y22
      rw [← HT2.out]
      try rw [hy2]
      clear hT2 HT2
      refine (ssendNext_any _ E _ RE.out NX nn nb HNX.out Hnn.out Hnb.out).mono ?_
      rintro e t3 ⟨u0, rfl, o0, bb⟩
      obtain ⟨h1, h2, h3, h4, h5, h6, rfl⟩ := o0.form
      have RM := hid o0.reads
      rw [HNZ.out] at RM
      rw [HNZ.out]
      clear o0
      replace RE := hid (RE.out.below bb)
      replace Y1 := hid (Y1.out.below bb Y1.out.lt)
      replace RN := hid (RN.out.below bb)
      replace Y2 := hid (Y2.out.below bb Y2.out.lt)
      replace BE := hid (BE.out.trans (bb.mono BE.out.size))
      clear bb
      obtain ⟨PN, BN, _⟩ := box_three (w := t3) (.int .i64 nz) (.slice h1 h2 h3) (.slice h4 h5 h6) 49
      obtain ⟨T3, hT3⟩ : ∃ W, W = t3.alloc (.cells #[.int .i64 nz, .slice h1 h2 h3, .slice h4 h5 h6] 49) := ⟨_, rfl⟩
      rw [← hT3] at PN BN
      replace RE := hid (RE.out.below BN)
      replace Y1 := hid (Y1.out.below BN Y1.out.lt)
      replace RN := hid (RN.out.below BN)
      replace Y2 := hid (Y2.out.below BN Y2.out.lt)
      replace RM := hid (RM.out.below BN)
      replace BE := hid (BE.out.trans (BN.mono BE.out.size))
      obtain ⟨y3, hy3⟩ : ∃ b, t3.heap.size = b := ⟨_, rfl⟩
      rw [hy3] at PN
      have Y3 := hid PN
      have HT3 := hid hT3
      clear PN BN
      obtain ⟨y10, y11, y12⟩ := Y1.out.three
      rw [hT3] at y10 y11 y12
      obtain ⟨y20, y21, y22⟩ := Y2.out.three
      rw [hT3] at y20 y21 y22
      obtain ⟨y30, y31, y32⟩ := Y3.out.three
      rw [hT3] at y30 y31 y32
      go_wp2_with fail
      clear y10 y11 y12 y20 y21 y22 y30 y31 y32
      rw [← HT3.out]
      try rw [hy3]
      clear hT3 HT3
      refine (drawNewSd_any _ _ (code_after11 HC1.out BE.out)).mono ?_
      rintro e t4 ⟨zw, rfl, bb⟩
      replace RE := hid (RE.out.below bb)
      replace Y1 := hid (Y1.out.below bb Y1.out.lt)
      replace RN := hid (RN.out.below bb)
      replace Y2 := hid (Y2.out.below bb Y2.out.lt)
      replace RM := hid (RM.out.below bb)
      replace Y3 := hid (Y3.out.below bb Y3.out.lt)
      replace BE := hid (BE.out.trans (bb.mono BE.out.size))
      clear bb
      obtain ⟨MX, hMX⟩ : ∃ x, newSd zw = x := ⟨_, rfl⟩
      have HMX := hid hMX
      clear hMX
      obtain ⟨mb, hmb⟩ : ∃ x, newSdB zw = x := ⟨_, rfl⟩
      have Hmb := hid hmb
      clear hmb
      obtain ⟨y10, y11, y12⟩ := Y1.out.three
      obtain ⟨y20, y21, y22⟩ := Y2.out.three
      obtain ⟨y30, y31, y32⟩ := Y3.out.three
      go_wp2_with fail
      clear y10 y11 y12 y20 y21 y22 y30 y31 y32
      refine (inewSd_any zw _ MX mb HMX.out Hmb.out).mono ?_
      rintro e t5 ⟨u0, rfl, o0, bb⟩
      obtain ⟨i1, i2, i3, i4, i5, i6, rfl⟩ := o0.form
      obtain ⟨mz, hmz⟩ : ∃ z, MX.f0 = z := ⟨_, rfl⟩
      have HMZ := hid hmz
      clear hmz
      have RQ := hid o0.reads
      rw [HMZ.out] at RQ
      rw [HMZ.out]
      clear o0
      replace RE := hid (RE.out.below bb)
      replace Y1 := hid (Y1.out.below bb Y1.out.lt)
      replace RN := hid (RN.out.below bb)
      replace Y2 := hid (Y2.out.below bb Y2.out.lt)
      replace RM := hid (RM.out.below bb)
      replace Y3 := hid (Y3.out.below bb Y3.out.lt)
      replace BE := hid (BE.out.trans (bb.mono BE.out.size))
      clear bb
      obtain ⟨PN, BN, _⟩ := box_three (w := t5) (.int .i64 mz) (.slice i1 i2 i3) (.slice i4 i5 i6) 49
      obtain ⟨T5, hT5⟩ : ∃ W, W = t5.alloc (.cells #[.int .i64 mz, .slice i1 i2 i3, .slice i4 i5 i6] 49) := ⟨_, rfl⟩
      rw [← hT5] at PN BN
      replace RE := hid (RE.out.below BN)
      replace Y1 := hid (Y1.out.below BN Y1.out.lt)
      replace RN := hid (RN.out.below BN)
      replace Y2 := hid (Y2.out.below BN Y2.out.lt)
      replace RM := hid (RM.out.below BN)
      replace Y3 := hid (Y3.out.below BN Y3.out.lt)
      replace RQ := hid (RQ.out.below BN)
      replace BE := hid (BE.out.trans (BN.mono BE.out.size))
      obtain ⟨y5, hy5⟩ : ∃ b, t5.heap.size = b := ⟨_, rfl⟩
      rw [hy5] at PN
      have Y5 := hid PN
      have HT5 := hid hT5
      clear PN BN
      obtain ⟨y10, y11, y12⟩ := Y1.out.three
      rw [hT5] at y10 y11 y12
      obtain ⟨y20, y21, y22⟩ := Y2.out.three
      rw [hT5] at y20 y21 y22
      obtain ⟨y30, y31, y32⟩ := Y3.out.three
      rw [hT5] at y30 y31 y32
      obtain ⟨y50, y51, y52⟩ := Y5.out.three
      rw [hT5] at y50 y51 y52
      go_wp2_with fail
      clear y10 y11 y12 y20 y21 y22 y30 y31 y32 y50 y51 y52
      rw [← HT5.out]
      try rw [hy5]
      clear hT5 HT5
      refine (snewSd_any zw _ MX mb HMX.out Hmb.out).mono ?_
      rintro e t6 ⟨u0, rfl, o0, bb⟩
      obtain ⟨j1, j2, j3, j4, j5, j6, rfl⟩ := o0.form
      have RS := hid o0.reads
      rw [HMZ.out] at RS
      rw [HMZ.out]
      clear o0
      replace RE := hid (RE.out.below bb)
      replace Y1 := hid (Y1.out.below bb Y1.out.lt)
      replace RN := hid (RN.out.below bb)
      replace Y2 := hid (Y2.out.below bb Y2.out.lt)
      replace RM := hid (RM.out.below bb)
      replace Y3 := hid (Y3.out.below bb Y3.out.lt)
      replace RQ := hid (RQ.out.below bb)
      replace Y5 := hid (Y5.out.below bb Y5.out.lt)
      replace BE := hid (BE.out.trans (bb.mono BE.out.size))
      clear bb
      obtain ⟨PN, BN, _⟩ := box_three (w := t6) (.int .i64 mz) (.slice j1 j2 j3) (.slice j4 j5 j6) 49
      obtain ⟨T6, hT6⟩ : ∃ W, W = t6.alloc (.cells #[.int .i64 mz, .slice j1 j2 j3, .slice j4 j5 j6] 49) := ⟨_, rfl⟩
      rw [← hT6] at PN BN
      replace RE := hid (RE.out.below BN)
      replace Y1 := hid (Y1.out.below BN Y1.out.lt)
      replace RN := hid (RN.out.below BN)
      replace Y2 := hid (Y2.out.below BN Y2.out.lt)
      replace RM := hid (RM.out.below BN)
      replace Y3 := hid (Y3.out.below BN Y3.out.lt)
      replace RQ := hid (RQ.out.below BN)
      replace Y5 := hid (Y5.out.below BN Y5.out.lt)
      replace RS := hid (RS.out.below BN)
      replace BE := hid (BE.out.trans (BN.mono BE.out.size))
      obtain ⟨y6, hy6⟩ : ∃ b, t6.heap.size = b := ⟨_, rfl⟩
      rw [hy6] at PN
      have Y6 := hid PN
      have HT6 := hid hT6
      clear PN BN
      have p1 : (nb == nb) = true := by simp
      have p2 : (nn == nn) = true := by simp
      have p3 : (mb == mb) = true := by simp
      obtain ⟨y10, y11, y12⟩ := Y1.out.three
      rw [hT6] at y10 y11 y12
      obtain ⟨y20, y21, y22⟩ := Y2.out.three
      rw [hT6] at y20 y21 y22
      obtain ⟨y30, y31, y32⟩ := Y3.out.three
      rw [hT6] at y30 y31 y32
      obtain ⟨y50, y51, y52⟩ := Y5.out.three
      rw [hT6] at y50 y51 y52
      obtain ⟨y60, y61, y62⟩ := Y6.out.three
      rw [hT6] at y60 y61 y62
      go_wp2_with fail
      clear y10 y11 y12 y20 y21 y22 y30 y31 y32 y50 y51 y52 y60 y61 y62
      rw [← HT6.out]
      try rw [hy6]
      clear hT6 HT6
      refine (sameSd_same _ _ NX _ RN.out RM.out).mono ?_
      rintro e t7 ⟨rfl, bb⟩
      replace RE := hid (RE.out.below bb)
      replace Y1 := hid (Y1.out.below bb Y1.out.lt)
      replace RN := hid (RN.out.below bb)
      replace Y2 := hid (Y2.out.below bb Y2.out.lt)
      replace RM := hid (RM.out.below bb)
      replace Y3 := hid (Y3.out.below bb Y3.out.lt)
      replace RQ := hid (RQ.out.below bb)
      replace Y5 := hid (Y5.out.below bb Y5.out.lt)
      replace RS := hid (RS.out.below bb)
      replace Y6 := hid (Y6.out.below bb Y6.out.lt)
      replace BE := hid (BE.out.trans (bb.mono BE.out.size))
      clear bb
      obtain ⟨y10, y11, y12⟩ := Y1.out.three
      obtain ⟨y20, y21, y22⟩ := Y2.out.three
      obtain ⟨y30, y31, y32⟩ := Y3.out.three
      obtain ⟨y50, y51, y52⟩ := Y5.out.three
      obtain ⟨y60, y61, y62⟩ := Y6.out.three
      go_wp2_with fail
      clear y10 y11 y12 y20 y21 y22 y30 y31 y32 y50 y51 y52 y60 y61 y62
      refine (sameSd_same _ _ MX _ RQ.out RS.out).mono ?_
      rintro e t8 ⟨rfl, bb⟩
      replace RE := hid (RE.out.below bb)
      replace Y1 := hid (Y1.out.below bb Y1.out.lt)
      replace RN := hid (RN.out.below bb)
      replace Y2 := hid (Y2.out.below bb Y2.out.lt)
      replace RM := hid (RM.out.below bb)
      replace Y3 := hid (Y3.out.below bb Y3.out.lt)
      replace RQ := hid (RQ.out.below bb)
      replace Y5 := hid (Y5.out.below bb Y5.out.lt)
      replace RS := hid (RS.out.below bb)
      replace Y6 := hid (Y6.out.below bb Y6.out.lt)
      replace BE := hid (BE.out.trans (bb.mono BE.out.size))
      clear bb
      cases nb
      · obtain ⟨r0, r1, r2⟩ := Y1.out.three
        go_wp2
        go_ret
        exact ⟨rfl, BE.out⟩
      have hgn : Hid (goodSd NX = true) := by show _ = _; rw [← HNX.out]; exact next_good Hnb.out
      have hne : nn = ez := by rw [← Hnn.out, ← HEZ.out]; unfold nextN; rw [Hnb.out]; rfl
      subst hne
      obtain ⟨y10, y11, y12⟩ := Y1.out.three
      obtain ⟨y20, y21, y22⟩ := Y2.out.three
      obtain ⟨y30, y31, y32⟩ := Y3.out.three
      obtain ⟨y50, y51, y52⟩ := Y5.out.three
      obtain ⟨y60, y61, y62⟩ := Y6.out.three
      go_wp2_with fail
      clear y10 y11 y12 y20 y21 y22 y30 y31 y32 y50 y51 y52 y60 y61 y62
      refine (igoodSd_eq _ NX true hgn.out _ RN.out).mono ?_
      rintro e t9 ⟨rfl, bb⟩
      replace RE := hid (RE.out.below bb)
      replace Y1 := hid (Y1.out.below bb Y1.out.lt)
      replace RN := hid (RN.out.below bb)
      replace Y2 := hid (Y2.out.below bb Y2.out.lt)
      replace RM := hid (RM.out.below bb)
      replace Y3 := hid (Y3.out.below bb Y3.out.lt)
      replace RQ := hid (RQ.out.below bb)
      replace Y5 := hid (Y5.out.below bb Y5.out.lt)
      replace RS := hid (RS.out.below bb)
      replace Y6 := hid (Y6.out.below bb Y6.out.lt)
      replace BE := hid (BE.out.trans (bb.mono BE.out.size))
      clear bb
      obtain ⟨r0, r1, r2⟩ := Y1.out.three
      have p4 : (nn == nn) = true := by simp
      go_wp2
      go_ret
      exact ⟨rfl, BE.out⟩
  obtain ⟨t1, t2, t3, t4, t5, t6, t7, t8, t9, t10⟩ := heard_told Htb.out
  rw [HX.out] at t1 t2 t4 t5 t6 t7 t8 t9 t10
  rw [HF.out] at t4
  rw [HLA.out, HOP.out] at t6
  obtain ⟨PX, hPX⟩ : ∃ x, openL X = x := ⟨_, rfl⟩
  rw [hPX] at t5 t6
  have HPX := hid hPX
  obtain ⟨ln, hln⟩ : ∃ x, lenL X.f1 = x := ⟨_, rfl⟩
  obtain ⟨lm, hlm⟩ : ∃ x, lenL D.f1 = x := ⟨_, rfl⟩
  rw [hln] at t4 t5
  rw [hlm] at t4
  rw [HZ7.out] at t5
  have hfew := goodSd_few t1
  rw [HZ7.out] at hfew
  have hb1 := len_bounds (good_chain t2) (by omega)
  have hb2 := len_bounds (good_chain t3) (by omega)
  rw [hln] at hb1
  rw [hlm] at hb2
  have hpl : PX.length ≤ 60 := by omega
  have hfl : F.length ≤ 60 := by omega
  have hal : LA.length ≤ 60 := by rw [← HLA.out]; exact hearLa_len Htb.out
  have hd2 : d2 = X.f2.length := by obtain ⟨a, c, e⟩ := kform11 (sd_parts R7.out).2; injection e
  subst hd2
  have T1' := hid t1
  have T2' := hid t2
  have T3' := hid t3
  have T6' := hid t6
  have T7' := hid t7
  have T8' := hid t8
  have T9' := hid t9
  have T10' := hid t10
  have HLN := hid hln
  have HLM := hid hlm
  have s1 : lm + (F.length : Int) = ln := by omega
  have s2 : IntKind.i64.wrap ln = ln := by rw [IntKind.wrap_i64]; omega
  obtain ⟨s, hs⟩ : ∃ s, ln + (X.f2.length : Int) = s := ⟨_, rfl⟩
  have s3 : IntKind.i64.wrap s = s := by rw [IntKind.wrap_i64]; omega
  have s4 : s + (PX.length : Int) = z7 := by omega
  have s5 : IntKind.i64.wrap z7 = z7 := by rw [IntKind.wrap_i64]; omega
  have s6 : (ln != ln) = false := by simp
  have s7 : (z7 != z7) = false := by simp
  have ARI := hid (And.intro s1 (And.intro s2 (And.intro hs (And.intro s3 (And.intro s4 s5)))))
  clear t1 t2 t3 t4 t5 t6 t7 t8 t9 t10 hPX hln hlm hb1 hb2 s1 s2 hs s3 s4 s5 s6 s7
  obtain ⟨x50, x51, x52⟩ := X5.out.three
  obtain ⟨x70, x71, x72⟩ := X7.out.three
  go_wp2_with fail
  clear x50 x51 x52 x70 x71 x72
  refine (iopen_any _ X _ R7.out PX true HPX.out T1'.out).mono ?_
  rintro e w11 ⟨up, rfl, op, bb⟩
  obtain ⟨c11, e11, rfl⟩ := kform11 op.reads
  have RP := hid op.reads
  clear op
  replace R5 := hid (R5.out.below bb)
  replace RL := hid (RL.out.below bb)
  replace X5 := hid (X5.out.below bb X5.out.lt)
  replace R7 := hid (R7.out.below bb)
  replace RF := hid (RF.out.below bb)
  replace RA := hid (RA.out.below bb)
  replace X7 := hid (X7.out.below bb X7.out.lt)
  replace RO := hid (RO.out.below bb)
  replace BE := hid (BE.out.trans (bb.mono BE.out.size))
  clear bb
  obtain ⟨x50, x51, x52⟩ := X5.out.three
  obtain ⟨x70, x71, x72⟩ := X7.out.three
  go_wp2_with fail
  clear x50 x51 x52 x70 x71 x72
  refine (ilengthOf_yes _ X.f1 _ (sd_parts R7.out).1.s T2'.out).mono ?_
  rintro e w12 ⟨rfl, bb⟩
  rw [HLN.out]
  replace R5 := hid (R5.out.below bb)
  replace RL := hid (RL.out.below bb)
  replace X5 := hid (X5.out.below bb X5.out.lt)
  replace R7 := hid (R7.out.below bb)
  replace RF := hid (RF.out.below bb)
  replace RA := hid (RA.out.below bb)
  replace X7 := hid (X7.out.below bb X7.out.lt)
  replace RO := hid (RO.out.below bb)
  replace RP := hid (RP.out.below bb)
  replace BE := hid (BE.out.trans (bb.mono BE.out.size))
  clear bb
  obtain ⟨x50, x51, x52⟩ := X5.out.three
  obtain ⟨x70, x71, x72⟩ := X7.out.three
  go_wp2_with fail
  clear x50 x51 x52 x70 x71 x72
  refine (ilengthOf_yes _ D.f1 _ (sd_parts R5.out).1.s T3'.out).mono ?_
  rintro e w13 ⟨rfl, bb⟩
  rw [HLM.out]
  replace R5 := hid (R5.out.below bb)
  replace RL := hid (RL.out.below bb)
  replace X5 := hid (X5.out.below bb X5.out.lt)
  replace R7 := hid (R7.out.below bb)
  replace RF := hid (RF.out.below bb)
  replace RA := hid (RA.out.below bb)
  replace X7 := hid (X7.out.below bb X7.out.lt)
  replace RO := hid (RO.out.below bb)
  replace RP := hid (RP.out.below bb)
  replace BE := hid (BE.out.trans (bb.mono BE.out.size))
  clear bb
  obtain ⟨x50, x51, x52⟩ := X5.out.three
  obtain ⟨x70, x71, x72⟩ := X7.out.three
  go_wp2_with fail
  clear x50 x51 x52 x70 x71 x72
  refine (igoodSd_eq _ X true T1'.out _ R7.out).mono ?_
  rintro e w14 ⟨rfl, bb⟩
  replace R5 := hid (R5.out.below bb)
  replace RL := hid (RL.out.below bb)
  replace X5 := hid (X5.out.below bb X5.out.lt)
  replace R7 := hid (R7.out.below bb)
  replace RF := hid (RF.out.below bb)
  replace RA := hid (RA.out.below bb)
  replace X7 := hid (X7.out.below bb X7.out.lt)
  replace RO := hid (RO.out.below bb)
  replace RP := hid (RP.out.below bb)
  replace BE := hid (BE.out.trans (bb.mono BE.out.size))
  clear bb
  obtain ⟨s1, s2, hs, s3, s4, s5⟩ := ARI.out
  have s6 : (ln != ln) = false := by simp
  have s7 : (z7 != z7) = false := by simp
  obtain ⟨v0, v1, v2⟩ := X7.out.three
  have OWN : Hid ((w14.alloc (.cells #[] 3)).ownsRow w14.heap.size 3 1 (.slice (some ⟨w14.heap.size, 0, none⟩) 0 0) 0 (kflat [])) := World.ownsRow_made w14 #[] 0 (Nat.le_refl _) (by unfold maxLen; omega) (by simp)
  have AL := hid ((Below.refl w14.heap.size w14).alloc (Nat.le_refl _) (.cells #[] 3))
  go_wp2_with (at_builtin; refine wpList_append_reads _ rfl _ _ rfl w14.heap.size _ _ [] rfl OWN.out _ LA rfl (RA.out.below AL.out) (by simp; omega) AL.out.size ?_)
  intro v15 w15 hown hgrow _
  have b15 : Below w14.heap.size w14 w15 := AL.out.grown hgrow AL.out.size (fun j hj => (OWN.out.lt j hj).1)
  obtain ⟨na15, np15, rfl⟩ := sform_of_owns hown
  have O15 := hid hown
  have B15 := hid b15
  clear hown hgrow b15 s1 s2 hs s3 s4 s5 s6 s7 v0 v1 v2
  have TA := O15.out
  have TB := RP.out.below B15.out
  go_wp2_with (at_builtin; refine wpList_append_reads _ rfl _ _ rfl w14.heap.size _ _ LA rfl TA _ PX rfl TB ?k2 B15.out.size ?_)
  case k2 => omega
  clear TA TB
  intro v16 w16 hown hgrow _
  have bb : Below w14.heap.size w14 w16 := B15.out.grown hgrow B15.out.size (fun j hj => by have := O15.out.lt j hj; omega)
  have RJ := hid (KOwn.of_owns hown (by simp; omega)).reads
  obtain ⟨c16, e16, rfl⟩ := kform11 RJ.out
  clear hown hgrow B15 O15 OWN AL
  replace R5 := hid (R5.out.below bb)
  replace RL := hid (RL.out.below bb)
  replace X5 := hid (X5.out.below bb X5.out.lt)
  replace R7 := hid (R7.out.below bb)
  replace RF := hid (RF.out.below bb)
  replace RA := hid (RA.out.below bb)
  replace X7 := hid (X7.out.below bb X7.out.lt)
  replace RO := hid (RO.out.below bb)
  replace RP := hid (RP.out.below bb)
  replace BE := hid (BE.out.trans (bb.mono BE.out.size))
  clear bb
  obtain ⟨Z, hZ⟩ : ∃ Z, LA ++ PX = Z := ⟨_, rfl⟩
  rw [hZ] at RJ T6' ⊢
  have hzl : Z.length ≤ 120 := by rw [← hZ, List.length_append]; omega
  clear hZ
  go_wp2
  go_loopw [178] (fun i wr => ∃ k : Nat, k ≤ Z.length ∧ i = .int .i64 (k : Nat) ∧ w16 = wr) (fun i _ => Z.length - (intOf i).toNat)
  case atStart => exact ⟨0, Nat.zero_le _, rfl, rfl⟩
  case round =>
    obtain ⟨k, hk, rfl, rfl⟩ := hrel
    by_cases hlt : k < Z.length
    · obtain ⟨gg, oo, cap', e, hc⟩ := RJ.out.cells k hlt
      cases e
      obtain ⟨y, hy⟩ : ∃ y, Z.getD k 0 = y := ⟨_, rfl⟩
      have cy : w16.cell? ⟨gg, oo + k, none⟩ = some (.int .i64 y) := by rw [← hy]; exact hc k hlt
      have HNy : Hid (OP.contains y = true) := by show _ = _; rw [List.contains_eq_mem, decide_eq_true_eq]; exact T6'.out y (by rw [← hy]; simp [List.getD_eq_getElem?_getD, hlt])
      have k0 : (0 : Int) ≤ (k : Int) := by omega
      have k1 : (k : Int) < (Z.length : Int) := by omega
      clear hc hy
      go_wp2_with fail
      refine (lhas_eq _ OP y true HNy.out _ RO.out).mono ?_
      rintro e w' ⟨rfl, hw⟩; obtain rfl := hw.symm
      go_wp2
      go_roundw
      case rel => exact ⟨k + 1, by omega, by go_num, by first | rfl | trivial⟩
      case measure => simp [intOf]; omega
    · obtain rfl : k = Z.length := by omega
      have hge : ¬ (Z.length : Int) < (Z.length : Int) := by omega
      clear RJ T6'
      obtain ⟨x50, x51, x52⟩ := X5.out.three
      obtain ⟨x70, x71, x72⟩ := X7.out.three
      go_wp2_with fail
      clear x50 x51 x52 x70 x71 x72
      refine (ihear_any _ _ X l _ R7.out RL.out X [] [] true T8'.out T9'.out T10'.out T7'.out).mono ?_
      rintro e w17 ⟨u0, u1, u2, S0, S1, S2, rfl, o0, o1, o2, _, _, bb⟩
      obtain ⟨i1, i2, i3, i4, i5, i6, rfl⟩ := o0.form
      obtain ⟨i7, i8, rfl⟩ := kform11 o1.reads
      obtain ⟨i9, i10, rfl⟩ := kform11 o2.reads
      have R27 := hid o0.reads
      rw [HZ7.out] at R27
      rw [HZ7.out]
      clear o0 o1 o2
      replace R5 := hid (R5.out.below bb)
      replace RL := hid (RL.out.below bb)
      replace X5 := hid (X5.out.below bb X5.out.lt)
      replace R7 := hid (R7.out.below bb)
      replace RF := hid (RF.out.below bb)
      replace RA := hid (RA.out.below bb)
      replace X7 := hid (X7.out.below bb X7.out.lt)
      replace RO := hid (RO.out.below bb)
      replace RP := hid (RP.out.below bb)
      replace BE := hid (BE.out.trans (bb.mono BE.out.size))
      clear bb
      obtain ⟨PN, BN, _⟩ := box_three (w := w17) (.int .i64 z7) (.slice i1 i2 i3) (.slice i4 i5 i6) 49
      obtain ⟨W17, hW17⟩ : ∃ W, W = w17.alloc (.cells #[.int .i64 z7, .slice i1 i2 i3, .slice i4 i5 i6] 49) := ⟨_, rfl⟩
      rw [← hW17] at PN BN
      replace R5 := hid (R5.out.below BN)
      replace RL := hid (RL.out.below BN)
      replace X5 := hid (X5.out.below BN X5.out.lt)
      replace R7 := hid (R7.out.below BN)
      replace RF := hid (RF.out.below BN)
      replace RA := hid (RA.out.below BN)
      replace X7 := hid (X7.out.below BN X7.out.lt)
      replace RO := hid (RO.out.below BN)
      replace RP := hid (RP.out.below BN)
      replace R27 := hid (R27.out.below BN)
      replace BE := hid (BE.out.trans (BN.mono BE.out.size))
      obtain ⟨b27, hb27⟩ : ∃ b, w17.heap.size = b := ⟨_, rfl⟩
      rw [hb27] at PN
      have X27 := hid PN
      have HW17 := hid hW17
      clear PN BN
      obtain ⟨x50, x51, x52⟩ := X5.out.three
      rw [hW17] at x50 x51 x52
      obtain ⟨x70, x71, x72⟩ := X7.out.three
      rw [hW17] at x70 x71 x72
      obtain ⟨x270, x271, x272⟩ := X27.out.three
      rw [hW17] at x270 x271 x272
      go_wp2_with fail
      clear x50 x51 x52 x70 x71 x72 x270 x271 x272
      rw [← HW17.out]
      try rw [hb27]
      clear hW17 HW17
      refine (sameSd_same _ _ X _ R27.out R7.out).mono ?_
      rintro e w18 ⟨rfl, bb⟩
      replace R5 := hid (R5.out.below bb)
      replace RL := hid (RL.out.below bb)
      replace X5 := hid (X5.out.below bb X5.out.lt)
      replace R7 := hid (R7.out.below bb)
      replace RF := hid (RF.out.below bb)
      replace RA := hid (RA.out.below bb)
      replace X7 := hid (X7.out.below bb X7.out.lt)
      replace RO := hid (RO.out.below bb)
      replace RP := hid (RP.out.below bb)
      replace R27 := hid (R27.out.below bb)
      replace X27 := hid (X27.out.below bb X27.out.lt)
      replace BE := hid (BE.out.trans (bb.mono BE.out.size))
      clear bb R5 RL X5 R7 RF RA X7 RO RP R27 X27
      as_aux_lemma =>
        go_wp2_with fail
        refine (drawSend_any _ _ (code_after11 HC1.out BE.out)).mono ?_
        rintro e t1 ⟨us, rfl, E, sd, bb⟩
        obtain ⟨f1, f2, f3, f4, f5, f6, rfl⟩ := sd.form
        obtain ⟨ez, hez⟩ : ∃ z, E.f0 = z := ⟨_, rfl⟩
        have RE := hid sd.reads
        rw [hez] at RE
        rw [hez]
        have HEZ := hid hez
        clear sd hez
        replace BE := hid (BE.out.trans (bb.mono BE.out.size))
        clear bb
        obtain ⟨PN, BN, _⟩ := box_three (w := t1) (.int .i64 ez) (.slice f1 f2 f3) (.slice f4 f5 f6) 49
        obtain ⟨T1, hT1⟩ : ∃ W, W = t1.alloc (.cells #[.int .i64 ez, .slice f1 f2 f3, .slice f4 f5 f6] 49) := ⟨_, rfl⟩
        rw [← hT1] at PN BN
        replace RE := hid (RE.out.below BN)
        replace BE := hid (BE.out.trans (BN.mono BE.out.size))
        obtain ⟨y1, hy1⟩ : ∃ b, t1.heap.size = b := ⟨_, rfl⟩
        rw [hy1] at PN
        have Y1 := hid PN
        have HT1 := hid hT1
        clear PN BN
        obtain ⟨NX, hNX⟩ : ∃ x, nextSd E = x := ⟨_, rfl⟩
        have HNX := hid hNX
        clear hNX
        obtain ⟨nn, hnn⟩ : ∃ x, nextN E = x := ⟨_, rfl⟩
        have Hnn := hid hnn
        clear hnn
        obtain ⟨nb, hnb⟩ : ∃ x, nextB E = x := ⟨_, rfl⟩
        have Hnb := hid hnb
        clear hnb
        obtain ⟨y10, y11, y12⟩ := Y1.out.three
        rw [hT1] at y10 y11 y12
        go_wp2_with fail
        clear y10 y11 y12
        rw [← HT1.out]
        try rw [hy1]
        clear hT1 HT1
        refine (isendNext_any _ E _ RE.out NX nn nb HNX.out Hnn.out Hnb.out).mono ?_
        rintro e t2 ⟨u0, rfl, o0, bb⟩
        obtain ⟨g1, g2, g3, g4, g5, g6, rfl⟩ := o0.form
        obtain ⟨nz, hnz⟩ : ∃ z, NX.f0 = z := ⟨_, rfl⟩
        have HNZ := hid hnz
        clear hnz
        have RN := hid o0.reads
        rw [HNZ.out] at RN
        rw [HNZ.out]
        clear o0
        replace RE := hid (RE.out.below bb)
        replace Y1 := hid (Y1.out.below bb Y1.out.lt)
        replace BE := hid (BE.out.trans (bb.mono BE.out.size))
        clear bb
        obtain ⟨PN, BN, _⟩ := box_three (w := t2) (.int .i64 nz) (.slice g1 g2 g3) (.slice g4 g5 g6) 49
        obtain ⟨T2, hT2⟩ : ∃ W, W = t2.alloc (.cells #[.int .i64 nz, .slice g1 g2 g3, .slice g4 g5 g6] 49) := ⟨_, rfl⟩
        rw [← hT2] at PN BN
        replace RE := hid (RE.out.below BN)
        replace Y1 := hid (Y1.out.below BN Y1.out.lt)
        replace RN := hid (RN.out.below BN)
        replace BE := hid (BE.out.trans (BN.mono BE.out.size))
        obtain ⟨y2, hy2⟩ : ∃ b, t2.heap.size = b := ⟨_, rfl⟩
        rw [hy2] at PN
        have Y2 := hid PN
        have HT2 := hid hT2
        clear PN BN
        obtain ⟨y10, y11, y12⟩ := Y1.out.three
        rw [hT2] at y10 y11 y12
        obtain ⟨y20, y21, y22⟩ := Y2.out.three
        rw [hT2] at y20 y21 y22
        go_wp2_with fail
        clear y10 y11 y12 y20 y21 y22
        rw [← HT2.out]
        try rw [hy2]
        clear hT2 HT2
        refine (ssendNext_any _ E _ RE.out NX nn nb HNX.out Hnn.out Hnb.out).mono ?_
        rintro e t3 ⟨u0, rfl, o0, bb⟩
        obtain ⟨h1, h2, h3, h4, h5, h6, rfl⟩ := o0.form
        have RM := hid o0.reads
        rw [HNZ.out] at RM
        rw [HNZ.out]
        clear o0
        replace RE := hid (RE.out.below bb)
        replace Y1 := hid (Y1.out.below bb Y1.out.lt)
        replace RN := hid (RN.out.below bb)
        replace Y2 := hid (Y2.out.below bb Y2.out.lt)
        replace BE := hid (BE.out.trans (bb.mono BE.out.size))
        clear bb
        obtain ⟨PN, BN, _⟩ := box_three (w := t3) (.int .i64 nz) (.slice h1 h2 h3) (.slice h4 h5 h6) 49
        obtain ⟨T3, hT3⟩ : ∃ W, W = t3.alloc (.cells #[.int .i64 nz, .slice h1 h2 h3, .slice h4 h5 h6] 49) := ⟨_, rfl⟩
        rw [← hT3] at PN BN
        replace RE := hid (RE.out.below BN)
        replace Y1 := hid (Y1.out.below BN Y1.out.lt)
        replace RN := hid (RN.out.below BN)
        replace Y2 := hid (Y2.out.below BN Y2.out.lt)
        replace RM := hid (RM.out.below BN)
        replace BE := hid (BE.out.trans (BN.mono BE.out.size))
        obtain ⟨y3, hy3⟩ : ∃ b, t3.heap.size = b := ⟨_, rfl⟩
        rw [hy3] at PN
        have Y3 := hid PN
        have HT3 := hid hT3
        clear PN BN
        obtain ⟨y10, y11, y12⟩ := Y1.out.three
        rw [hT3] at y10 y11 y12
        obtain ⟨y20, y21, y22⟩ := Y2.out.three
        rw [hT3] at y20 y21 y22
        obtain ⟨y30, y31, y32⟩ := Y3.out.three
        rw [hT3] at y30 y31 y32
        go_wp2_with fail
        clear y10 y11 y12 y20 y21 y22 y30 y31 y32
        rw [← HT3.out]
        try rw [hy3]
        clear hT3 HT3
        refine (drawNewSd_any _ _ (code_after11 HC1.out BE.out)).mono ?_
        rintro e t4 ⟨zw, rfl, bb⟩
        replace RE := hid (RE.out.below bb)
        replace Y1 := hid (Y1.out.below bb Y1.out.lt)
        replace RN := hid (RN.out.below bb)
        replace Y2 := hid (Y2.out.below bb Y2.out.lt)
        replace RM := hid (RM.out.below bb)
        replace Y3 := hid (Y3.out.below bb Y3.out.lt)
        replace BE := hid (BE.out.trans (bb.mono BE.out.size))
        clear bb
        obtain ⟨MX, hMX⟩ : ∃ x, newSd zw = x := ⟨_, rfl⟩
        have HMX := hid hMX
        clear hMX
        obtain ⟨mb, hmb⟩ : ∃ x, newSdB zw = x := ⟨_, rfl⟩
        have Hmb := hid hmb
        clear hmb
        obtain ⟨y10, y11, y12⟩ := Y1.out.three
        obtain ⟨y20, y21, y22⟩ := Y2.out.three
        obtain ⟨y30, y31, y32⟩ := Y3.out.three
        go_wp2_with fail
        clear y10 y11 y12 y20 y21 y22 y30 y31 y32
        refine (inewSd_any zw _ MX mb HMX.out Hmb.out).mono ?_
        rintro e t5 ⟨u0, rfl, o0, bb⟩
        obtain ⟨i1, i2, i3, i4, i5, i6, rfl⟩ := o0.form
        obtain ⟨mz, hmz⟩ : ∃ z, MX.f0 = z := ⟨_, rfl⟩
        have HMZ := hid hmz
        clear hmz
        have RQ := hid o0.reads
        rw [HMZ.out] at RQ
        rw [HMZ.out]
        clear o0
        replace RE := hid (RE.out.below bb)
        replace Y1 := hid (Y1.out.below bb Y1.out.lt)
        replace RN := hid (RN.out.below bb)
        replace Y2 := hid (Y2.out.below bb Y2.out.lt)
        replace RM := hid (RM.out.below bb)
        replace Y3 := hid (Y3.out.below bb Y3.out.lt)
        replace BE := hid (BE.out.trans (bb.mono BE.out.size))
        clear bb
        obtain ⟨PN, BN, _⟩ := box_three (w := t5) (.int .i64 mz) (.slice i1 i2 i3) (.slice i4 i5 i6) 49
        obtain ⟨T5, hT5⟩ : ∃ W, W = t5.alloc (.cells #[.int .i64 mz, .slice i1 i2 i3, .slice i4 i5 i6] 49) := ⟨_, rfl⟩
        rw [← hT5] at PN BN
        replace RE := hid (RE.out.below BN)
        replace Y1 := hid (Y1.out.below BN Y1.out.lt)
        replace RN := hid (RN.out.below BN)
        replace Y2 := hid (Y2.out.below BN Y2.out.lt)
        replace RM := hid (RM.out.below BN)
        replace Y3 := hid (Y3.out.below BN Y3.out.lt)
        replace RQ := hid (RQ.out.below BN)
        replace BE := hid (BE.out.trans (BN.mono BE.out.size))
        obtain ⟨y5, hy5⟩ : ∃ b, t5.heap.size = b := ⟨_, rfl⟩
        rw [hy5] at PN
        have Y5 := hid PN
        have HT5 := hid hT5
        clear PN BN
        obtain ⟨y10, y11, y12⟩ := Y1.out.three
        rw [hT5] at y10 y11 y12
        obtain ⟨y20, y21, y22⟩ := Y2.out.three
        rw [hT5] at y20 y21 y22
        obtain ⟨y30, y31, y32⟩ := Y3.out.three
        rw [hT5] at y30 y31 y32
        obtain ⟨y50, y51, y52⟩ := Y5.out.three
        rw [hT5] at y50 y51 y52
        go_wp2_with fail
        clear y10 y11 y12 y20 y21 y22 y30 y31 y32 y50 y51 y52
        rw [← HT5.out]
        try rw [hy5]
        clear hT5 HT5
        refine (snewSd_any zw _ MX mb HMX.out Hmb.out).mono ?_
        rintro e t6 ⟨u0, rfl, o0, bb⟩
        obtain ⟨j1, j2, j3, j4, j5, j6, rfl⟩ := o0.form
        have RS := hid o0.reads
        rw [HMZ.out] at RS
        rw [HMZ.out]
        clear o0
        replace RE := hid (RE.out.below bb)
        replace Y1 := hid (Y1.out.below bb Y1.out.lt)
        replace RN := hid (RN.out.below bb)
        replace Y2 := hid (Y2.out.below bb Y2.out.lt)
        replace RM := hid (RM.out.below bb)
        replace Y3 := hid (Y3.out.below bb Y3.out.lt)
        replace RQ := hid (RQ.out.below bb)
        replace Y5 := hid (Y5.out.below bb Y5.out.lt)
        replace BE := hid (BE.out.trans (bb.mono BE.out.size))
        clear bb
        obtain ⟨PN, BN, _⟩ := box_three (w := t6) (.int .i64 mz) (.slice j1 j2 j3) (.slice j4 j5 j6) 49
        obtain ⟨T6, hT6⟩ : ∃ W, W = t6.alloc (.cells #[.int .i64 mz, .slice j1 j2 j3, .slice j4 j5 j6] 49) := ⟨_, rfl⟩
        rw [← hT6] at PN BN
        replace RE := hid (RE.out.below BN)
        replace Y1 := hid (Y1.out.below BN Y1.out.lt)
        replace RN := hid (RN.out.below BN)
        replace Y2 := hid (Y2.out.below BN Y2.out.lt)
        replace RM := hid (RM.out.below BN)
        replace Y3 := hid (Y3.out.below BN Y3.out.lt)
        replace RQ := hid (RQ.out.below BN)
        replace Y5 := hid (Y5.out.below BN Y5.out.lt)
        replace RS := hid (RS.out.below BN)
        replace BE := hid (BE.out.trans (BN.mono BE.out.size))
        obtain ⟨y6, hy6⟩ : ∃ b, t6.heap.size = b := ⟨_, rfl⟩
        rw [hy6] at PN
        have Y6 := hid PN
        have HT6 := hid hT6
        clear PN BN
        have p1 : (nb == nb) = true := by simp
        have p2 : (nn == nn) = true := by simp
        have p3 : (mb == mb) = true := by simp
        obtain ⟨y10, y11, y12⟩ := Y1.out.three
        rw [hT6] at y10 y11 y12
        obtain ⟨y20, y21, y22⟩ := Y2.out.three
        rw [hT6] at y20 y21 y22
        obtain ⟨y30, y31, y32⟩ := Y3.out.three
        rw [hT6] at y30 y31 y32
        obtain ⟨y50, y51, y52⟩ := Y5.out.three
        rw [hT6] at y50 y51 y52
        obtain ⟨y60, y61, y62⟩ := Y6.out.three
        rw [hT6] at y60 y61 y62
        go_wp2_with fail
        clear y10 y11 y12 y20 y21 y22 y30 y31 y32 y50 y51 y52 y60 y61 y62
        rw [← HT6.out]
        try rw [hy6]
        clear hT6 HT6
        refine (sameSd_same _ _ NX _ RN.out RM.out).mono ?_
        rintro e t7 ⟨rfl, bb⟩
        replace RE := hid (RE.out.below bb)
        replace Y1 := hid (Y1.out.below bb Y1.out.lt)
        replace RN := hid (RN.out.below bb)
        replace Y2 := hid (Y2.out.below bb Y2.out.lt)
        replace RM := hid (RM.out.below bb)
        replace Y3 := hid (Y3.out.below bb Y3.out.lt)
        replace RQ := hid (RQ.out.below bb)
        replace Y5 := hid (Y5.out.below bb Y5.out.lt)
        replace RS := hid (RS.out.below bb)
        replace Y6 := hid (Y6.out.below bb Y6.out.lt)
        replace BE := hid (BE.out.trans (bb.mono BE.out.size))
        clear bb
        obtain ⟨y10, y11, y12⟩ := Y1.out.three
        obtain ⟨y20, y21, y22⟩ := Y2.out.three
        obtain ⟨y30, y31, y32⟩ := Y3.out.three
        obtain ⟨y50, y51, y52⟩ := Y5.out.three
        obtain ⟨y60, y61, y62⟩ := Y6.out.three
        go_wp2_with fail
        clear y10 y11 y12 y20 y21 y22 y30 y31 y32 y50 y51 y52 y60 y61 y62
        refine (sameSd_same _ _ MX _ RQ.out RS.out).mono ?_
        rintro e t8 ⟨rfl, bb⟩
        replace RE := hid (RE.out.below bb)
        replace Y1 := hid (Y1.out.below bb Y1.out.lt)
        replace RN := hid (RN.out.below bb)
        replace Y2 := hid (Y2.out.below bb Y2.out.lt)
        replace RM := hid (RM.out.below bb)
        replace Y3 := hid (Y3.out.below bb Y3.out.lt)
        replace RQ := hid (RQ.out.below bb)
        replace Y5 := hid (Y5.out.below bb Y5.out.lt)
        replace RS := hid (RS.out.below bb)
        replace Y6 := hid (Y6.out.below bb Y6.out.lt)
        replace BE := hid (BE.out.trans (bb.mono BE.out.size))
        clear bb
        cases nb
        · obtain ⟨r0, r1, r2⟩ := Y1.out.three
          go_wp2
          go_ret
          exact ⟨rfl, BE.out⟩
        have hgn : Hid (goodSd NX = true) := by show _ = _; rw [← HNX.out]; exact next_good Hnb.out
        have hne : nn = ez := by rw [← Hnn.out, ← HEZ.out]; unfold nextN; rw [Hnb.out]; rfl
        subst hne
        obtain ⟨y10, y11, y12⟩ := Y1.out.three
        obtain ⟨y20, y21, y22⟩ := Y2.out.three
        obtain ⟨y30, y31, y32⟩ := Y3.out.three
        obtain ⟨y50, y51, y52⟩ := Y5.out.three
        obtain ⟨y60, y61, y62⟩ := Y6.out.three
        go_wp2_with fail
        clear y10 y11 y12 y20 y21 y22 y30 y31 y32 y50 y51 y52 y60 y61 y62
        refine (igoodSd_eq _ NX true hgn.out _ RN.out).mono ?_
        rintro e t9 ⟨rfl, bb⟩
        replace RE := hid (RE.out.below bb)
        replace Y1 := hid (Y1.out.below bb Y1.out.lt)
        replace RN := hid (RN.out.below bb)
        replace Y2 := hid (Y2.out.below bb Y2.out.lt)
        replace RM := hid (RM.out.below bb)
        replace Y3 := hid (Y3.out.below bb Y3.out.lt)
        replace RQ := hid (RQ.out.below bb)
        replace Y5 := hid (Y5.out.below bb Y5.out.lt)
        replace RS := hid (RS.out.below bb)
        replace Y6 := hid (Y6.out.below bb Y6.out.lt)
        replace BE := hid (BE.out.trans (bb.mono BE.out.size))
        clear bb
        obtain ⟨r0, r1, r2⟩ := Y1.out.three
        have p4 : (nn == nn) = true := by simp
        go_wp2
        go_ret
        exact ⟨rfl, BE.out⟩
end Go.Proofs.Ytnkpboobfkjibad
