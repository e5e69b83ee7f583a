/-
  The law FnTurns answers true at every two lists of bytes, where turns are drawn.
-/
import Derived.Test.YtepnhbicmlfnhacDraw
import Derived.Test.YtepnhbicmlfnhacINext
import Derived.Test.YtepnhbicmlfnhacSPutNo
import Derived.Test.YtepnhbicmlfnhacKOwnS
import Derived.Test.YtepnhbicmlfnhacSameK
import Derived.Test.YtepnhbicmlfnhacBits
import Derived.Test.YtepnhbicmlfnhacFlowFns
import Derived.Test.YtepnhbicmlfnhacIGoodT
import Derived.Test.YtepnhbicmlfnhacSSum1
import Derived.Test.YtepnhbicmlfnhacIWaiting
import Derived.Deep.QuietTactic
import Derived.BigQuiet
import Derived.Deep.RegionHeld3
namespace Go.Proofs.Ytepnhbicmlfnhac
open Go.RowKit

def DrawNextTells (f : Nat) : Prop := ∀ (v : Value) (w : World), CodeOk w.heap.size w v → Calls Try.prog f #[v] w fun e w' => ∃ u, e = .returned u ∧ ∃ D : TuD, TuReads w' u D ∧ Below w.heap.size w w'
def DrawPutTells (f : Nat) : Prop := ∀ (v : Value) (w : World), CodeOk w.heap.size w v → Calls Try.prog f #[v] w fun e w' => ∃ (u : Value) (k s : Int), e = .returned (.tuple #[u, .int .i64 k, .int .i64 s]) ∧ ∃ D : TuD, TuReads w' u D ∧ Below w.heap.size w w'
def DrawNewTells (f : Nat) : Prop := ∀ (v : Value) (w : World), CodeOk w.heap.size w v → Calls Try.prog f #[v] w fun e w' => ∃ u, e = .returned u ∧ ∃ xs : List Int, KReads w' u xs ∧ Below w.heap.size w w'
theorem code_after8c {w w' : World} {v : Value} (h : CodeOk w.heap.size w v) (hb : Below w.heap.size w w') : CodeOk w'.heap.size w' v := by
  obtain ⟨a, len, cap, rfl, hl, hx⟩ := h.below hb
  refine ⟨a, len, cap, rfl, hl, ?_⟩
  rcases hx with hx | ⟨cb, off, rfl, hlt, hc⟩
  · exact .inl hx
  · exact .inr ⟨cb, off, rfl, Nat.lt_of_lt_of_le hlt hb.size, hc⟩
set_option maxRecDepth 100000 in
set_option maxHeartbeats 40000000 in
theorem FnTurns_law (HDN : DrawNextTells 33) (HDP : DrawPutTells 42) (HDW : DrawNewTells 45) (a0 : Option Addr) (len0 cap0 : Nat) (z0 : List Int) (a1 : Option Addr) (len1 cap1 : Nat) (z1 : List Int) (w : World) (h0 : IsRow .u8 w a0 len0 cap0 z0) (h1 : IsRow .u8 w a1 len1 cap1 z1) (b0 : cap0 * 1 ≤ 140737488351232) (b1 : cap1 * 1 ≤ 140737488351232) :
    Calls Try.prog 5 #[.slice a0 len0 cap0, .slice a1 len1 cap1] w fun e w' => e = .returned (.bool true) ∧ Below w.heap.size w w' := by
  have l0 : len0 ≤ cap0 := by rcases h0 with ⟨_, rfl, rfl, _⟩ | ⟨x, _, h, _⟩ <;> omega
  have l1 : len1 ≤ cap1 := by rcases h1 with ⟨_, rfl, rfl, _⟩ | ⟨x, _, h, _⟩ <;> omega
  replace HDN := hid HDN; replace HDP := hid HDP; replace HDW := hid HDW
  by_cases hbig : (1048576 : Int) < (len0 : Int) + (len1 : Int)
  · clear h0 h1
    go_enter Try.func5, Try.ntmps5
    go_wp2
    go_ret
    exact ⟨rfl, Below.refl _ _⟩
  have HC0 := hid (code_of_row h0 (by omega))
  have HC1 := hid (code_of_row h1 (by omega))
  clear h0 h1
  have B : Hid (Below w.heap.size w w) := Below.refl _ _
  go_enter Try.func5, Try.ntmps5
  go_wp2_with fail
  refine (HDN.out _ _ HC0.out).mono ?_
  rintro e w1 ⟨t, rfl, D, hr, b⟩
  obtain ⟨ta0, tk0, ta1, tk1, ta2, tk2, ta3, tk3, rfl, _, _, _, _⟩ := tu_form hr
  have RT := hid hr
  clear hr
  replace B : Hid (Below w.heap.size w w1) := B.out.trans (b.mono B.out.size)
  clear b
  have b : Below w1.heap.size w1 (w1.alloc (.cells #[.slice ta0 D.f0.length tk0, .slice ta1 D.f1.length tk1, .slice ta2 D.f2.length tk2, .slice ta3 D.f3.length tk3, .int .i64 D.f4] 55)) := (Below.refl _ _).alloc (Nat.le_refl _) _
  replace RT := hid (RT.out.below b)
  replace B : Hid (Below w.heap.size w (w1.alloc (.cells #[.slice ta0 D.f0.length tk0, .slice ta1 D.f1.length tk1, .slice ta2 D.f2.length tk2, .slice ta3 D.f3.length tk3, .int .i64 D.f4] 55))) := B.out.trans (b.mono B.out.size)
  have KT := hid (boxL_new w1 [.slice ta0 D.f0.length tk0, .slice ta1 D.f1.length tk1, .slice ta2 D.f2.length tk2, .slice ta3 D.f3.length tk3, .int .i64 D.f4] 55)
  clear b
  obtain ⟨ok, hok⟩ : ∃ ok, nextOk D = ok := ⟨_, rfl⟩
  obtain ⟨X, hX⟩ : ∃ X, nextX D = X := ⟨_, rfl⟩
  obtain ⟨ps, hps⟩ : ∃ ps, nextS D = ps := ⟨_, rfl⟩
  obtain ⟨gd, hgd⟩ : ∃ gd, goodTu D = gd := ⟨_, rfl⟩
  obtain ⟨ta, hta⟩ : ∃ x, totV D = x := ⟨_, rfl⟩
  obtain ⟨wa, hwa⟩ : ∃ x, waitV D = x := ⟨_, rfl⟩
  have HOK := hid hok; have HX := hid hX; have HPS := hid hps; have HGD := hid hgd; have HTA := hid hta; have HWA := hid hwa
  clear hok hX hps hgd hta hwa
  obtain ⟨q00, q01, q02, q03, q04⟩ := KT.out.five
  go_wp2_with fail
  refine (inext_tells _ D _ RT.out).mono ?_
  rintro e w2 ⟨x, p, rfl, hx, hp, b⟩
  rw [HOK.out]
  rw [HX.out] at hx
  rw [HPS.out] at hp
  obtain ⟨xa0, xk0, xa1, xk1, xa2, xk2, xa3, xk3, rfl, _, _, _, _⟩ := tu_form hx
  obtain ⟨xp, xq, rfl, _, _⟩ := id hp
  have RX := hid hx
  have RP := hid hp
  clear hx hp
  clear q00 q01 q02 q03 q04
  replace KT := hid (KT.out.below b KT.out.lt)
  replace RT := hid (RT.out.below b)
  replace B : Hid (Below w.heap.size w w2) := B.out.trans (b.mono B.out.size)
  clear b
  have b : Below w2.heap.size w2 (w2.alloc (.cells #[.slice xa0 X.f0.length xk0, .slice xa1 X.f1.length xk1, .slice xa2 X.f2.length xk2, .slice xa3 X.f3.length xk3, .int .i64 X.f4] 55)) := (Below.refl _ _).alloc (Nat.le_refl _) _
  replace KT := hid (KT.out.below b KT.out.lt)
  replace RT := hid (RT.out.below b)
  replace RX := hid (RX.out.below b)
  replace RP := hid (RP.out.below b)
  replace B : Hid (Below w.heap.size w (w2.alloc (.cells #[.slice xa0 X.f0.length xk0, .slice xa1 X.f1.length xk1, .slice xa2 X.f2.length xk2, .slice xa3 X.f3.length xk3, .int .i64 X.f4] 55))) := B.out.trans (b.mono B.out.size)
  have KX := hid (boxL_new w2 [.slice xa0 X.f0.length xk0, .slice xa1 X.f1.length xk1, .slice xa2 X.f2.length xk2, .slice xa3 X.f3.length xk3, .int .i64 X.f4] 55)
  clear b
  obtain ⟨q00, q01, q02, q03, q04⟩ := KT.out.five
  obtain ⟨q10, q11, q12, q13, q14⟩ := KX.out.five
  go_wp2_with fail
  refine (snext_tells _ D _ RT.out).mono ?_
  rintro e w3 ⟨y, q, rfl, hx, hp, b⟩
  rw [HOK.out]
  rw [HX.out] at hx
  rw [HPS.out] at hp
  obtain ⟨ya0, yk0, ya1, yk1, ya2, yk2, ya3, yk3, rfl, _, _, _, _⟩ := tu_form hx
  obtain ⟨yp, yq, rfl, _, _⟩ := id hp
  have RY := hid hx
  have RQ := hid hp
  clear hx hp
  clear q00 q01 q02 q03 q04 q10 q11 q12 q13 q14
  replace KT := hid (KT.out.below b KT.out.lt)
  replace KX := hid (KX.out.below b KX.out.lt)
  replace RT := hid (RT.out.below b)
  replace RX := hid (RX.out.below b)
  replace RP := hid (RP.out.below b)
  replace B : Hid (Below w.heap.size w w3) := B.out.trans (b.mono B.out.size)
  clear b
  have b : Below w3.heap.size w3 (w3.alloc (.cells #[.slice ya0 X.f0.length yk0, .slice ya1 X.f1.length yk1, .slice ya2 X.f2.length yk2, .slice ya3 X.f3.length yk3, .int .i64 X.f4] 55)) := (Below.refl _ _).alloc (Nat.le_refl _) _
  replace KT := hid (KT.out.below b KT.out.lt)
  replace KX := hid (KX.out.below b KX.out.lt)
  replace RT := hid (RT.out.below b)
  replace RX := hid (RX.out.below b)
  replace RP := hid (RP.out.below b)
  replace RY := hid (RY.out.below b)
  replace RQ := hid (RQ.out.below b)
  replace B : Hid (Below w.heap.size w (w3.alloc (.cells #[.slice ya0 X.f0.length yk0, .slice ya1 X.f1.length yk1, .slice ya2 X.f2.length yk2, .slice ya3 X.f3.length yk3, .int .i64 X.f4] 55))) := B.out.trans (b.mono B.out.size)
  have KY := hid (boxL_new w3 [.slice ya0 X.f0.length yk0, .slice ya1 X.f1.length yk1, .slice ya2 X.f2.length yk2, .slice ya3 X.f3.length yk3, .int .i64 X.f4] 55)
  clear b
  obtain ⟨q00, q01, q02, q03, q04⟩ := KT.out.five
  obtain ⟨q10, q11, q12, q13, q14⟩ := KX.out.five
  obtain ⟨q20, q21, q22, q23, q24⟩ := KY.out.five
  go_wp2_with fail
  refine (itotal_eq _ D _ RT.out).mono ?_
  rintro e w4 ⟨rfl, b⟩
  rw [HTA.out, HGD.out]
  clear q00 q01 q02 q03 q04 q10 q11 q12 q13 q14 q20 q21 q22 q23 q24
  replace KT := hid (KT.out.below b KT.out.lt)
  replace KX := hid (KX.out.below b KX.out.lt)
  replace KY := hid (KY.out.below b KY.out.lt)
  replace RT := hid (RT.out.below b)
  replace RX := hid (RX.out.below b)
  replace RP := hid (RP.out.below b)
  replace RY := hid (RY.out.below b)
  replace RQ := hid (RQ.out.below b)
  replace B : Hid (Below w.heap.size w w4) := B.out.trans (b.mono B.out.size)
  clear b
  obtain ⟨q00, q01, q02, q03, q04⟩ := KT.out.five
  obtain ⟨q10, q11, q12, q13, q14⟩ := KX.out.five
  obtain ⟨q20, q21, q22, q23, q24⟩ := KY.out.five
  go_wp2_with fail
  refine (stotal_eq _ D _ RT.out).mono ?_
  rintro e w5 ⟨rfl, b⟩
  rw [HTA.out, HGD.out]
  clear q00 q01 q02 q03 q04 q10 q11 q12 q13 q14 q20 q21 q22 q23 q24
  replace KT := hid (KT.out.below b KT.out.lt)
  replace KX := hid (KX.out.below b KX.out.lt)
  replace KY := hid (KY.out.below b KY.out.lt)
  replace RT := hid (RT.out.below b)
  replace RX := hid (RX.out.below b)
  replace RP := hid (RP.out.below b)
  replace RY := hid (RY.out.below b)
  replace RQ := hid (RQ.out.below b)
  replace B : Hid (Below w.heap.size w w5) := B.out.trans (b.mono B.out.size)
  clear b
  obtain ⟨q00, q01, q02, q03, q04⟩ := KT.out.five
  obtain ⟨q10, q11, q12, q13, q14⟩ := KX.out.five
  obtain ⟨q20, q21, q22, q23, q24⟩ := KY.out.five
  go_wp2_with fail
  refine (iwaiting_eq _ D _ RT.out).mono ?_
  rintro e w6 ⟨rfl, b⟩
  rw [HWA.out, HGD.out]
  clear q00 q01 q02 q03 q04 q10 q11 q12 q13 q14 q20 q21 q22 q23 q24
  replace KT := hid (KT.out.below b KT.out.lt)
  replace KX := hid (KX.out.below b KX.out.lt)
  replace KY := hid (KY.out.below b KY.out.lt)
  replace RT := hid (RT.out.below b)
  replace RX := hid (RX.out.below b)
  replace RP := hid (RP.out.below b)
  replace RY := hid (RY.out.below b)
  replace RQ := hid (RQ.out.below b)
  replace B : Hid (Below w.heap.size w w6) := B.out.trans (b.mono B.out.size)
  clear b
  obtain ⟨q00, q01, q02, q03, q04⟩ := KT.out.five
  obtain ⟨q10, q11, q12, q13, q14⟩ := KX.out.five
  obtain ⟨q20, q21, q22, q23, q24⟩ := KY.out.five
  go_wp2_with fail
  refine (swaiting_eq _ D _ RT.out).mono ?_
  rintro e w7 ⟨rfl, b⟩
  rw [HWA.out, HGD.out]
  clear q00 q01 q02 q03 q04 q10 q11 q12 q13 q14 q20 q21 q22 q23 q24
  replace KT := hid (KT.out.below b KT.out.lt)
  replace KX := hid (KX.out.below b KX.out.lt)
  replace KY := hid (KY.out.below b KY.out.lt)
  replace RT := hid (RT.out.below b)
  replace RX := hid (RX.out.below b)
  replace RP := hid (RP.out.below b)
  replace RY := hid (RY.out.below b)
  replace RQ := hid (RQ.out.below b)
  replace B : Hid (Below w.heap.size w w7) := B.out.trans (b.mono B.out.size)
  clear b
  have n1 : (ok != ok) = false := by cases ok <;> rfl
  have n2 : (gd != gd) = false := by cases gd <;> rfl
  have n3 : (ta != ta) = false := by simp
  have n4 : (wa != wa) = false := by simp
  obtain ⟨q00, q01, q02, q03, q04⟩ := KT.out.five
  obtain ⟨q10, q11, q12, q13, q14⟩ := KX.out.five
  obtain ⟨q20, q21, q22, q23, q24⟩ := KY.out.five
  go_wp2_with fail
  refine (sameK_same _ _ ps _ RP.out RQ.out).mono ?_
  rintro e w8 ⟨rfl, hm⟩
  have b := sameK_below hm
  clear hm
  clear q00 q01 q02 q03 q04 q10 q11 q12 q13 q14 q20 q21 q22 q23 q24
  replace KT := hid (KT.out.below b KT.out.lt)
  replace KX := hid (KX.out.below b KX.out.lt)
  replace KY := hid (KY.out.below b KY.out.lt)
  replace RT := hid (RT.out.below b)
  replace RX := hid (RX.out.below b)
  replace RP := hid (RP.out.below b)
  replace RY := hid (RY.out.below b)
  replace RQ := hid (RQ.out.below b)
  replace B : Hid (Below w.heap.size w w8) := B.out.trans (b.mono B.out.size)
  clear b
  obtain ⟨q00, q01, q02, q03, q04⟩ := KT.out.five
  obtain ⟨q10, q11, q12, q13, q14⟩ := KX.out.five
  obtain ⟨q20, q21, q22, q23, q24⟩ := KY.out.five
  go_wp2_with fail
  refine (sameTurns_same _ _ X _ RX.out RY.out).mono ?_
  rintro e w9 ⟨rfl, b⟩
  clear q00 q01 q02 q03 q04 q10 q11 q12 q13 q14 q20 q21 q22 q23 q24
  replace KT := hid (KT.out.below b KT.out.lt)
  replace KX := hid (KX.out.below b KX.out.lt)
  replace KY := hid (KY.out.below b KY.out.lt)
  replace RT := hid (RT.out.below b)
  replace RX := hid (RX.out.below b)
  replace RP := hid (RP.out.below b)
  replace RY := hid (RY.out.below b)
  replace RQ := hid (RQ.out.below b)
  replace B : Hid (Below w.heap.size w w9) := B.out.trans (b.mono B.out.size)
  clear b
  obtain ⟨q00, q01, q02, q03, q04⟩ := KT.out.five
  obtain ⟨q10, q11, q12, q13, q14⟩ := KX.out.five
  obtain ⟨q20, q21, q22, q23, q24⟩ := KY.out.five
  go_wp2_with fail
  refine (igoodT_eq _ D gd HGD.out _ RT.out).mono ?_
  rintro e w10 ⟨rfl, b⟩
  clear q00 q01 q02 q03 q04 q10 q11 q12 q13 q14 q20 q21 q22 q23 q24
  replace KT := hid (KT.out.below b KT.out.lt)
  replace KX := hid (KX.out.below b KX.out.lt)
  replace KY := hid (KY.out.below b KY.out.lt)
  replace RT := hid (RT.out.below b)
  replace RX := hid (RX.out.below b)
  replace RP := hid (RP.out.below b)
  replace RY := hid (RY.out.below b)
  replace RQ := hid (RQ.out.below b)
  replace B : Hid (Below w.heap.size w w10) := B.out.trans (b.mono B.out.size)
  clear b
  clear n1 n2 n3 n4 KY RY RQ
  cases ok
  case false =>
    clear HOK HX HPS HGD HTA HWA
    cases gd
    all_goals
      as_aux_lemma =>
        obtain ⟨q00, q01, q02, q03, q04⟩ := KT.out.five
        obtain ⟨q10, q11, q12, q13, q14⟩ := KX.out.five
        go_wp2_with fail
        refine (HDP.out _ _ (code_after8c HC1.out B.out)).mono ?_
        rintro e w11 ⟨u, qn, sn, rfl, E, hr, b⟩
        obtain ⟨ea0, ek0, ea1, ek1, ea2, ek2, ea3, ek3, rfl, _, _, _, _⟩ := tu_form hr
        replace B : Hid (Below w.heap.size w w11) := B.out.trans (b.mono B.out.size)
        have RE := hid hr
        clear b hr q00 q01 q02 q03 q04 q10 q11 q12 q13 q14 KT KX RT RX RP
        have b : Below w11.heap.size w11 (w11.alloc (.cells #[.slice ea0 E.f0.length ek0, .slice ea1 E.f1.length ek1, .slice ea2 E.f2.length ek2, .slice ea3 E.f3.length ek3, .int .i64 E.f4] 55)) := (Below.refl _ _).alloc (Nat.le_refl _) _
        replace RE := hid (RE.out.below b)
        replace B : Hid (Below w.heap.size w (w11.alloc (.cells #[.slice ea0 E.f0.length ek0, .slice ea1 E.f1.length ek1, .slice ea2 E.f2.length ek2, .slice ea3 E.f3.length ek3, .int .i64 E.f4] 55))) := B.out.trans (b.mono B.out.size)
        have KE := hid (boxL_new w11 [.slice ea0 E.f0.length ek0, .slice ea1 E.f1.length ek1, .slice ea2 E.f2.length ek2, .slice ea3 E.f3.length ek3, .int .i64 E.f4] 55)
        clear b
        obtain ⟨po, hpo⟩ : ∃ po, putOk E qn sn = po := ⟨_, rfl⟩
        obtain ⟨P, hP⟩ : ∃ P, putX E qn sn = P := ⟨_, rfl⟩
        have HPO := hid hpo; have HP := hid hP
        clear hpo hP
        obtain ⟨q00, q01, q02, q03, q04⟩ := KE.out.five
        go_wp2_with fail
        refine (iput_tells _ E qn sn _ RE.out).mono ?_
        rintro e w12 ⟨x, rfl, hx, b⟩
        rw [HPO.out]
        rw [HP.out] at hx
        obtain ⟨ma0, mk0, ma1, mk1, ma2, mk2, ma3, mk3, rfl, _, _, _, _⟩ := tu_form hx
        have RM := hid hx
        clear hx
        clear q00 q01 q02 q03 q04
        replace KE := hid (KE.out.below b KE.out.lt)
        replace RE := hid (RE.out.below b)
        replace B : Hid (Below w.heap.size w w12) := B.out.trans (b.mono B.out.size)
        clear b
        have b : Below w12.heap.size w12 (w12.alloc (.cells #[.slice ma0 P.f0.length mk0, .slice ma1 P.f1.length mk1, .slice ma2 P.f2.length mk2, .slice ma3 P.f3.length mk3, .int .i64 P.f4] 55)) := (Below.refl _ _).alloc (Nat.le_refl _) _
        replace KE := hid (KE.out.below b KE.out.lt)
        replace RE := hid (RE.out.below b)
        replace RM := hid (RM.out.below b)
        replace B : Hid (Below w.heap.size w (w12.alloc (.cells #[.slice ma0 P.f0.length mk0, .slice ma1 P.f1.length mk1, .slice ma2 P.f2.length mk2, .slice ma3 P.f3.length mk3, .int .i64 P.f4] 55))) := B.out.trans (b.mono B.out.size)
        have KM := hid (boxL_new w12 [.slice ma0 P.f0.length mk0, .slice ma1 P.f1.length mk1, .slice ma2 P.f2.length mk2, .slice ma3 P.f3.length mk3, .int .i64 P.f4] 55)
        clear b
        obtain ⟨q00, q01, q02, q03, q04⟩ := KE.out.five
        obtain ⟨q10, q11, q12, q13, q14⟩ := KM.out.five
        go_wp2_with fail
        refine (sput_tells _ E qn sn _ RE.out).mono ?_
        rintro e w13 ⟨x, rfl, hx, b⟩
        rw [HPO.out]
        rw [HP.out] at hx
        obtain ⟨na0, nk0, na1, nk1, na2, nk2, na3, nk3, rfl, _, _, _, _⟩ := tu_form hx
        have RN := hid hx
        clear hx
        clear q00 q01 q02 q03 q04 q10 q11 q12 q13 q14
        replace KE := hid (KE.out.below b KE.out.lt)
        replace KM := hid (KM.out.below b KM.out.lt)
        replace RE := hid (RE.out.below b)
        replace RM := hid (RM.out.below b)
        replace B : Hid (Below w.heap.size w w13) := B.out.trans (b.mono B.out.size)
        clear b
        have b : Below w13.heap.size w13 (w13.alloc (.cells #[.slice na0 P.f0.length nk0, .slice na1 P.f1.length nk1, .slice na2 P.f2.length nk2, .slice na3 P.f3.length nk3, .int .i64 P.f4] 55)) := (Below.refl _ _).alloc (Nat.le_refl _) _
        replace KE := hid (KE.out.below b KE.out.lt)
        replace KM := hid (KM.out.below b KM.out.lt)
        replace RE := hid (RE.out.below b)
        replace RM := hid (RM.out.below b)
        replace RN := hid (RN.out.below b)
        replace B : Hid (Below w.heap.size w (w13.alloc (.cells #[.slice na0 P.f0.length nk0, .slice na1 P.f1.length nk1, .slice na2 P.f2.length nk2, .slice na3 P.f3.length nk3, .int .i64 P.f4] 55))) := B.out.trans (b.mono B.out.size)
        have KN := hid (boxL_new w13 [.slice na0 P.f0.length nk0, .slice na1 P.f1.length nk1, .slice na2 P.f2.length nk2, .slice na3 P.f3.length nk3, .int .i64 P.f4] 55)
        clear b
        clear KE RE
        obtain ⟨q00, q01, q02, q03, q04⟩ := KM.out.five
        obtain ⟨q10, q11, q12, q13, q14⟩ := KN.out.five
        go_wp2_with fail
        refine (HDW.out _ _ (code_after8c HC1.out B.out)).mono ?_
        rintro e w14 ⟨v, rfl, xs, hv, b⟩
        obtain ⟨va, vk, rfl, _, _⟩ := id hv
        have RV := hid hv
        clear hv
        clear q00 q01 q02 q03 q04 q10 q11 q12 q13 q14
        replace KM := hid (KM.out.below b KM.out.lt)
        replace KN := hid (KN.out.below b KN.out.lt)
        replace RM := hid (RM.out.below b)
        replace RN := hid (RN.out.below b)
        replace B : Hid (Below w.heap.size w w14) := B.out.trans (b.mono B.out.size)
        clear b
        obtain ⟨no, hno⟩ : ∃ no, newOk xs = no := ⟨_, rfl⟩
        obtain ⟨Q, hQ⟩ : ∃ Q, newX xs = Q := ⟨_, rfl⟩
        have HNO := hid hno; have HQ := hid hQ
        clear hno hQ
        obtain ⟨q00, q01, q02, q03, q04⟩ := KM.out.five
        obtain ⟨q10, q11, q12, q13, q14⟩ := KN.out.five
        go_wp2_with fail
        refine (inew_tells _ xs _ RV.out).mono ?_
        rintro e w15 ⟨x, rfl, hx, b⟩
        rw [HNO.out]
        rw [HQ.out] at hx
        obtain ⟨ca0, ck0, ca1, ck1, ca2, ck2, ca3, ck3, rfl, _, _, _, _⟩ := tu_form hx
        have RC := hid hx
        clear hx
        clear q00 q01 q02 q03 q04 q10 q11 q12 q13 q14
        replace KM := hid (KM.out.below b KM.out.lt)
        replace KN := hid (KN.out.below b KN.out.lt)
        replace RM := hid (RM.out.below b)
        replace RN := hid (RN.out.below b)
        replace RV := hid (RV.out.below b)
        replace B : Hid (Below w.heap.size w w15) := B.out.trans (b.mono B.out.size)
        clear b
        have b : Below w15.heap.size w15 (w15.alloc (.cells #[.slice ca0 Q.f0.length ck0, .slice ca1 Q.f1.length ck1, .slice ca2 Q.f2.length ck2, .slice ca3 Q.f3.length ck3, .int .i64 Q.f4] 55)) := (Below.refl _ _).alloc (Nat.le_refl _) _
        replace KM := hid (KM.out.below b KM.out.lt)
        replace KN := hid (KN.out.below b KN.out.lt)
        replace RM := hid (RM.out.below b)
        replace RN := hid (RN.out.below b)
        replace RV := hid (RV.out.below b)
        replace RC := hid (RC.out.below b)
        replace B : Hid (Below w.heap.size w (w15.alloc (.cells #[.slice ca0 Q.f0.length ck0, .slice ca1 Q.f1.length ck1, .slice ca2 Q.f2.length ck2, .slice ca3 Q.f3.length ck3, .int .i64 Q.f4] 55))) := B.out.trans (b.mono B.out.size)
        have KC := hid (boxL_new w15 [.slice ca0 Q.f0.length ck0, .slice ca1 Q.f1.length ck1, .slice ca2 Q.f2.length ck2, .slice ca3 Q.f3.length ck3, .int .i64 Q.f4] 55)
        clear b
        obtain ⟨q00, q01, q02, q03, q04⟩ := KM.out.five
        obtain ⟨q10, q11, q12, q13, q14⟩ := KN.out.five
        obtain ⟨q20, q21, q22, q23, q24⟩ := KC.out.five
        go_wp2_with fail
        refine (snew_tells _ xs _ RV.out).mono ?_
        rintro e w16 ⟨x, rfl, hx, b⟩
        rw [HNO.out]
        rw [HQ.out] at hx
        obtain ⟨da0, dk0, da1, dk1, da2, dk2, da3, dk3, rfl, _, _, _, _⟩ := tu_form hx
        have RD := hid hx
        clear hx
        clear q00 q01 q02 q03 q04 q10 q11 q12 q13 q14 q20 q21 q22 q23 q24
        replace KM := hid (KM.out.below b KM.out.lt)
        replace KN := hid (KN.out.below b KN.out.lt)
        replace KC := hid (KC.out.below b KC.out.lt)
        replace RM := hid (RM.out.below b)
        replace RN := hid (RN.out.below b)
        replace RV := hid (RV.out.below b)
        replace RC := hid (RC.out.below b)
        replace B : Hid (Below w.heap.size w w16) := B.out.trans (b.mono B.out.size)
        clear b
        have b : Below w16.heap.size w16 (w16.alloc (.cells #[.slice da0 Q.f0.length dk0, .slice da1 Q.f1.length dk1, .slice da2 Q.f2.length dk2, .slice da3 Q.f3.length dk3, .int .i64 Q.f4] 55)) := (Below.refl _ _).alloc (Nat.le_refl _) _
        replace KM := hid (KM.out.below b KM.out.lt)
        replace KN := hid (KN.out.below b KN.out.lt)
        replace KC := hid (KC.out.below b KC.out.lt)
        replace RM := hid (RM.out.below b)
        replace RN := hid (RN.out.below b)
        replace RV := hid (RV.out.below b)
        replace RC := hid (RC.out.below b)
        replace RD := hid (RD.out.below b)
        replace B : Hid (Below w.heap.size w (w16.alloc (.cells #[.slice da0 Q.f0.length dk0, .slice da1 Q.f1.length dk1, .slice da2 Q.f2.length dk2, .slice da3 Q.f3.length dk3, .int .i64 Q.f4] 55))) := B.out.trans (b.mono B.out.size)
        have KD := hid (boxL_new w16 [.slice da0 Q.f0.length dk0, .slice da1 Q.f1.length dk1, .slice da2 Q.f2.length dk2, .slice da3 Q.f3.length dk3, .int .i64 Q.f4] 55)
        clear b
        have n1 : (po == po) = true := by cases po <;> rfl
        have n2 : (no == no) = true := by cases no <;> rfl
        obtain ⟨q00, q01, q02, q03, q04⟩ := KM.out.five
        obtain ⟨q10, q11, q12, q13, q14⟩ := KN.out.five
        obtain ⟨q20, q21, q22, q23, q24⟩ := KC.out.five
        obtain ⟨q30, q31, q32, q33, q34⟩ := KD.out.five
        go_wp2_with fail
        refine (sameTurns_same _ _ P _ RM.out RN.out).mono ?_
        rintro e w17 ⟨rfl, b⟩
        clear q00 q01 q02 q03 q04 q10 q11 q12 q13 q14 q20 q21 q22 q23 q24 q30 q31 q32 q33 q34
        replace KM := hid (KM.out.below b KM.out.lt)
        replace KN := hid (KN.out.below b KN.out.lt)
        replace KC := hid (KC.out.below b KC.out.lt)
        replace KD := hid (KD.out.below b KD.out.lt)
        replace RM := hid (RM.out.below b)
        replace RN := hid (RN.out.below b)
        replace RV := hid (RV.out.below b)
        replace RC := hid (RC.out.below b)
        replace RD := hid (RD.out.below b)
        replace B : Hid (Below w.heap.size w w17) := B.out.trans (b.mono B.out.size)
        clear b
        obtain ⟨q00, q01, q02, q03, q04⟩ := KM.out.five
        obtain ⟨q10, q11, q12, q13, q14⟩ := KN.out.five
        obtain ⟨q20, q21, q22, q23, q24⟩ := KC.out.five
        obtain ⟨q30, q31, q32, q33, q34⟩ := KD.out.five
        go_wp2_with fail
        refine (sameTurns_same _ _ Q _ RC.out RD.out).mono ?_
        rintro e w18 ⟨rfl, b⟩
        clear q00 q01 q02 q03 q04 q10 q11 q12 q13 q14 q20 q21 q22 q23 q24 q30 q31 q32 q33 q34
        replace KM := hid (KM.out.below b KM.out.lt)
        replace KN := hid (KN.out.below b KN.out.lt)
        replace KC := hid (KC.out.below b KC.out.lt)
        replace KD := hid (KD.out.below b KD.out.lt)
        replace RM := hid (RM.out.below b)
        replace RN := hid (RN.out.below b)
        replace RV := hid (RV.out.below b)
        replace RC := hid (RC.out.below b)
        replace RD := hid (RD.out.below b)
        replace B : Hid (Below w.heap.size w w18) := B.out.trans (b.mono B.out.size)
        clear b
        cases po
        case false =>
          obtain ⟨q00, q01, q02, q03, q04⟩ := KM.out.five
          obtain ⟨q10, q11, q12, q13, q14⟩ := KN.out.five
          obtain ⟨q20, q21, q22, q23, q24⟩ := KC.out.five
          obtain ⟨q30, q31, q32, q33, q34⟩ := KD.out.five
          go_wp2
          go_ret
          exact ⟨rfl, B.out⟩
        have HGP : Hid (goodTu P = true) := by rw [← HP.out]; exact put_good HPO.out
        obtain ⟨q00, q01, q02, q03, q04⟩ := KM.out.five
        obtain ⟨q10, q11, q12, q13, q14⟩ := KN.out.five
        obtain ⟨q20, q21, q22, q23, q24⟩ := KC.out.five
        obtain ⟨q30, q31, q32, q33, q34⟩ := KD.out.five
        go_wp2_with fail
        refine (igoodT_eq _ P true HGP.out _ RM.out).mono ?_
        rintro e w19 ⟨rfl, b⟩
        clear q00 q01 q02 q03 q04 q10 q11 q12 q13 q14 q20 q21 q22 q23 q24 q30 q31 q32 q33 q34
        replace KM := hid (KM.out.below b KM.out.lt)
        replace KN := hid (KN.out.below b KN.out.lt)
        replace KC := hid (KC.out.below b KC.out.lt)
        replace KD := hid (KD.out.below b KD.out.lt)
        replace RM := hid (RM.out.below b)
        replace RN := hid (RN.out.below b)
        replace RV := hid (RV.out.below b)
        replace RC := hid (RC.out.below b)
        replace RD := hid (RD.out.below b)
        replace B : Hid (Below w.heap.size w w19) := B.out.trans (b.mono B.out.size)
        clear b
        go_wp2
        go_ret
        exact ⟨rfl, B.out⟩
  have TT : Hid (TurnTold D X (atN D) ps (leftT D (atN D)) (D.f1.getD (atN D) [])) := by
    have h := turn_told HOK.out
    have e1 : X = stepD D := by rw [← HX.out]; unfold nextX; rw [HOK.out]; rfl
    have e2 : ps = sendT D (atN D) := by rw [← HPS.out]; unfold nextS; rw [HOK.out]; rfl
    rw [e1, e2]
    exact h
  obtain ⟨k, hk⟩ : ∃ k, atN D = k := ⟨_, rfl⟩
  obtain ⟨l, hl⟩ : ∃ l, leftT D (atN D) = l := ⟨_, rfl⟩
  obtain ⟨q, hq⟩ : ∃ q, D.f1.getD (atN D) [] = q := ⟨_, rfl⟩
  rw [hl, hq, hk] at TT
  obtain rfl : gd = true := by rw [← HGD.out]; exact TT.out.gd
  obtain ⟨tx, htx⟩ : ∃ x, totV X = x := ⟨_, rfl⟩
  obtain ⟨wx, hwx⟩ : ∃ x, waitV X = x := ⟨_, rfl⟩
  have HTX := hid htx; have HWX := hid hwx
  clear hk hl hq htx hwx HOK HX HPS HGD
  obtain ⟨q00, q01, q02, q03, q04⟩ := KT.out.five
  obtain ⟨q10, q11, q12, q13, q14⟩ := KX.out.five
  go_wp2_with fail
  refine (itotal_eq _ X _ RX.out).mono ?_
  rintro e w11 ⟨rfl, b⟩
  rw [HTX.out, TT.out.gx]
  clear q00 q01 q02 q03 q04 q10 q11 q12 q13 q14
  replace KT := hid (KT.out.below b KT.out.lt)
  replace KX := hid (KX.out.below b KX.out.lt)
  replace RT := hid (RT.out.below b)
  replace RX := hid (RX.out.below b)
  replace RP := hid (RP.out.below b)
  replace B : Hid (Below w.heap.size w w11) := B.out.trans (b.mono B.out.size)
  clear b
  obtain ⟨q00, q01, q02, q03, q04⟩ := KT.out.five
  obtain ⟨q10, q11, q12, q13, q14⟩ := KX.out.five
  go_wp2_with fail
  refine (iwaiting_eq _ X _ RX.out).mono ?_
  rintro e w12 ⟨rfl, b⟩
  rw [HWX.out, TT.out.gx]
  clear q00 q01 q02 q03 q04 q10 q11 q12 q13 q14
  replace KT := hid (KT.out.below b KT.out.lt)
  replace KX := hid (KX.out.below b KX.out.lt)
  replace RT := hid (RT.out.below b)
  replace RX := hid (RX.out.below b)
  replace RP := hid (RP.out.below b)
  replace B : Hid (Below w.heap.size w w12) := B.out.trans (b.mono B.out.size)
  clear b
  have hat := TT.out.at_
  rw [hat] at KT
  clear hat
  obtain ⟨v0, v1, v2, v3, ev, y0, y1, y2, y3⟩ := RT.out
  simp only [Value.agg.injEq, Array.mk.injEq, List.cons.injEq, and_true] at ev
  obtain ⟨rfl, rfl, rfl, rfl⟩ := ev
  obtain ⟨v0, v1, v2, v3, ev, x0, x1, x2, x3⟩ := RX.out
  simp only [Value.agg.injEq, Array.mk.injEq, List.cons.injEq, and_true] at ev
  obtain ⟨rfl, rfl, rfl, rfl⟩ := ev
  obtain ⟨g1, o1, m1', ex, hy1⟩ := y1.cells k TT.out.k1
  cases ex
  obtain ⟨qv, e1, hqv⟩ := hy1 k TT.out.k1
  rw [TT.out.q_is] at hqv
  obtain ⟨h1, p1, m2', ex, hx1⟩ := x1.cells k TT.out.kx1
  cases ex
  obtain ⟨lv, e2, hlv⟩ := hx1 k TT.out.kx1
  rw [TT.out.l_is] at hlv
  obtain ⟨g0, o0, rfl, e3⟩ := kcell_at y0 TT.out.k0
  obtain ⟨g2, o2, rfl, e4⟩ := kcell_at y2 TT.out.k2
  obtain ⟨h2, p2, rfl, e5⟩ := kcell_at x2 TT.out.kx2
  obtain ⟨aq, kq, rfl, hq1, _⟩ := id hqv
  obtain ⟨al, kl, rfl, _, _⟩ := id hlv
  have RQV := hid hqv; have RLV := hid hlv
  clear hqv hlv hy1 hx1 y0 y1 y2 y3 x0 x1 x2 x3
  have happ := TT.out.app
  have hlen : q.length = ps.length + l.length := by rw [← happ, List.length_append]
  obtain ⟨⟨tb1, tb2⟩, ⟨tb3, tb4⟩, tb5, tb6⟩ := TT.out.tb
  have hsum := TT.out.sum
  have htot := TT.out.tot
  rw [HTX.out, HWX.out, HTA.out, HWA.out] at hsum
  rw [HTX.out, HTA.out] at htot
  rw [HTA.out] at tb1 tb2
  rw [HWA.out] at tb3 tb4
  obtain ⟨sm, hsm⟩ : ∃ x, sumI ps = x := ⟨_, rfl⟩
  rw [hsm] at htot tb5 tb6
  obtain ⟨sw, hsw⟩ : ∃ x, ta + wa = x := ⟨_, rfl⟩
  have f1 : IntKind.i64.wrap (tx + wx) = sw := by rw [IntKind.wrap_i64]; omega
  have f2 : IntKind.i64.wrap (ta + wa) = sw := by rw [IntKind.wrap_i64]; omega
  have f3 : (sw != sw) = false := by simp
  have f4 : IntKind.i64.wrap (ta + sm) = tx := by rw [IntKind.wrap_i64]; omega
  have f5 : (tx != tx) = false := by simp
  have f6 : decide ((q.length : Int) < (ps.length : Int)) = false := by simp; omega
  have f7 : (ps.length : Int) ≤ (q.length : Int) := by omega
  have f6a : decide (q.length < ps.length) = false := by simp; omega
  have f6b : ¬ (q.length < ps.length) := by omega
  have f6c : ¬ ((q.length : Int) < (ps.length : Int)) := by omega
  have f6d : decide ((ps.length : Int) > (q.length : Int)) = false := by simp; omega
  have f6e : ps.length ≤ q.length := by omega
  have f8 : (ps.length : Int) ≤ (kq : Int) := by omega
  have f9 : (0 : Int) ≤ (ps.length : Int) := by omega
  have i0 : (0 : Int) ≤ (k : Int) := by omega
  have i1 : (k : Int) < (D.f1.length : Int) := by have := TT.out.k1; omega
  have i2 : (k : Int) < (X.f1.length : Int) := by have := TT.out.kx1; omega
  have i3 : (k : Int) < (D.f0.length : Int) := by have := TT.out.k0; omega
  have i4 : (k : Int) < (D.f2.length : Int) := by have := TT.out.k2; omega
  have i5 : (k : Int) < (X.f2.length : Int) := by have := TT.out.kx2; omega
  have HSM := hid hsm; have HLEN := hid hlen; have HAPP := hid happ
  have HTB : Hid (0 ≤ sm ∧ sm ≤ 600) := ⟨tb5, tb6⟩
  clear happ hlen tb1 tb2 tb3 tb4 tb5 tb6 hsum htot hsm hsw HTX HWX HTA HWA
  obtain ⟨r0, r1, r2, r3, r4⟩ := KT.out.five
  obtain ⟨s0, s1, s2, s3, s4⟩ := KX.out.five
  skip
  have HFL : Hid (∀ t, 0 ≤ fl ps t ∧ fl ps t ≤ 10000) := fun t => by
    by_cases ht : t < ps.length
    · have h := TT.out.small.2 t (by have := HLEN.out; omega)
      have e : fl q t = fl ps t := by rw [← HAPP.out]; unfold fl; rw [List.getD_eq_getElem?_getD, List.getElem?_append_left ht, ← List.getD_eq_getElem?_getD]
      rw [e] at h
      omega
    · rw [fl_out ht]; omega
  have HE2 := hid e2
  have HE3 := hid e3; have HE4 := hid e4; have HE5 := hid e5
  have hqa := RQV.out
  rw [← HAPP.out] at hqa
  have HPQ := hid (kpart hqa)
  have f10 : ((q.length : Nat) : Int) - (ps.length : Int) = ((l.length : Nat) : Int) := by have := HLEN.out; omega
  have f11 : q.length - ps.length = l.length := by have := HLEN.out; omega
  by_cases hl0 : l = []
  case pos =>
    have HL0 := hid hl0
    have HRA : Hid (∀ (av : Option Addr) (c : Nat), KReads w12 (.slice av l.length c) l) := fun av c => ⟨_, _, rfl, by rw [HL0.out]; simp, .inl HL0.out⟩
    clear hqa hl0
    rcases aq with _ | ⟨gq, oq, sp⟩
    case none =>
      have HRL := hid (HRA.out none (kq - ps.length))
      clear HRA
      as_aux_lemma =>
        have HSI : Hid (∀ v u wq, ((v = .slice xp ps.length xq ∧ u = .slice none ps.length kq) ∨ (v = .slice al l.length kl ∧ u = .slice none l.length (kq - ps.length))) → Below w12.heap.size w12 wq → Calls Try.prog 13 #[v, u] wq fun e w' => e = .returned (.bool true) ∧ Below wq.heap.size wq w') := fun v u wq hv hq => by
          rcases hv with ⟨rfl, rfl⟩ | ⟨rfl, rfl⟩
          · exact (sameK_same _ _ ps wq (RP.out.below hq) (HPQ.out.below hq)).mono fun _ _ ⟨he, hm⟩ => ⟨he, sameK_below hm⟩
          · exact (sameK_same _ _ l wq (RLV.out.below hq) (HRL.out.below hq)).mono fun _ _ ⟨he, hm⟩ => ⟨he, sameK_below hm⟩
        have HSO : Hid (∀ wq, Below w12.heap.size w12 wq → Calls Try.prog 14 #[.slice xp ps.length xq] wq fun e w' => e = .returned (.int .i64 sm) ∧ w' = wq) := fun wq hq => by
          have h := sumOf_any _ ps wq (RP.out.below hq) (by have := TT.out.small.1; omega) HFL.out
          rw [show psum (fl ps) ps.length = sm from HSM.out] at h
          exact h
        have HGO : Hid (∀ wq, Below w12.heap.size w12 wq → Calls Try.prog 41 #[.agg #[.slice xa0 X.f0.length xk0, .slice (some ⟨h1, p1, none⟩) X.f1.length xk1, .slice (some ⟨h2, p2, none⟩) X.f2.length xk2, .slice xa3 X.f3.length xk3, .int .i64 X.f4]] wq fun e w' => e = .returned (.bool true) ∧ Below wq.heap.size wq w') := fun wq hq => igoodT_eq _ X true TT.out.gx wq (RX.out.below hq)
        have qX : Below w12.heap.size w12 w12.drew := (Below.refl _ _).drew
        go_wp2_with fail
        go_region_held3 (fun w' => w'.cell? ⟨w2.heap.size, 0, none⟩ = some (.slice xa0 X.f0.length xk0) ∧ w'.cell? ⟨w2.heap.size, 1, none⟩ = some (.slice (some ⟨h1, p1, none⟩) X.f1.length xk1) ∧ w'.cell? ⟨w2.heap.size, 2, none⟩ = some (.slice (some ⟨h2, p2, none⟩) X.f2.length xk2) ∧ w'.cell? ⟨w2.heap.size, 3, none⟩ = some (.slice xa3 X.f3.length xk3) ∧ w'.cell? ⟨w2.heap.size, 4, none⟩ = some (.int .i64 X.f4) ∧ w'.cell? ⟨w1.heap.size, 4, none⟩ = some (.int .i64 (k : Int)) ∧ w'.cell? ⟨h1, p1 + k, none⟩ = some (.slice al l.length kl) ∧ Below w12.heap.size w12 w') (first | (refine ⟨?_, ?_, ?_, ?_, ?_, ?_, ?_, ?_⟩ <;> assumption) | exact ⟨s0, s1, s2, s3, s4, r4, e2, qX⟩)
          (first | (go_at_call 41; refine (HGO.out _ (show Below w12.heap.size w12 _ by first | assumption | exact (by assumption : _ ∧ _ ∧ _ ∧ _ ∧ _ ∧ _ ∧ _ ∧ Below w12.heap.size w12 _).2.2.2.2.2.2.2)).mono ?_; rintro e wt ⟨rfl, b⟩; have qX := Below.trans (show Below w12.heap.size w12 _ by first | assumption | exact (by assumption : _ ∧ _ ∧ _ ∧ _ ∧ _ ∧ _ ∧ _ ∧ Below w12.heap.size w12 _).2.2.2.2.2.2.2) (b.mono (Below.size (show Below w12.heap.size w12 _ by first | assumption | exact (by assumption : _ ∧ _ ∧ _ ∧ _ ∧ _ ∧ _ ∧ _ ∧ Below w12.heap.size w12 _).2.2.2.2.2.2.2))); obtain ⟨s0, s1, s2, s3, s4⟩ := (KX.out.below qX KX.out.lt).five; have r4 := (KT.out.below qX KT.out.lt).five.2.2.2.2; have e2 := (World.cell?_of_block (a := ⟨h1, p1 + k, none⟩) (qX.block h1 (lt_of_cell HE2.out))).trans HE2.out) | (go_at_call 14; refine (HSO.out _ (show Below w12.heap.size w12 _ by first | assumption | exact (by assumption : _ ∧ _ ∧ _ ∧ _ ∧ _ ∧ _ ∧ _ ∧ Below w12.heap.size w12 _).2.2.2.2.2.2.2)).mono ?_; rintro e w' ⟨rfl, hw⟩; obtain rfl := hw.symm) | (go_at_call 13; refine (HSI.out _ _ _ (by first | exact .inl ⟨rfl, rfl⟩ | exact .inr ⟨rfl, rfl⟩) (show Below w12.heap.size w12 _ by first | assumption | exact (by assumption : _ ∧ _ ∧ _ ∧ _ ∧ _ ∧ _ ∧ _ ∧ Below w12.heap.size w12 _).2.2.2.2.2.2.2)).mono ?_; rintro e wt ⟨rfl, b⟩; have qX := Below.trans (show Below w12.heap.size w12 _ by first | assumption | exact (by assumption : _ ∧ _ ∧ _ ∧ _ ∧ _ ∧ _ ∧ _ ∧ Below w12.heap.size w12 _).2.2.2.2.2.2.2) (b.mono (Below.size (show Below w12.heap.size w12 _ by first | assumption | exact (by assumption : _ ∧ _ ∧ _ ∧ _ ∧ _ ∧ _ ∧ _ ∧ Below w12.heap.size w12 _).2.2.2.2.2.2.2))); obtain ⟨s0, s1, s2, s3, s4⟩ := (KX.out.below qX KX.out.lt).five; have r4 := (KT.out.below qX KT.out.lt).five.2.2.2.2; have e2 := (World.cell?_of_block (a := ⟨h1, p1 + k, none⟩) (qX.block h1 (lt_of_cell HE2.out))).trans HE2.out))
        replace B : Hid (Below w.heap.size w wt) := B.out.trans (qX.mono B.out.size)
        have HQX := hid qX
        clear s0 s1 s3 s4 e2 r4 s2
        have hz : q.length = ps.length := by have := HLEN.out; rw [HL0.out] at this; simpa using this
        have d1 : decide ((ps.length : Int) < (q.length : Int)) = false := by simp; omega
        have d2 : decide (ps.length < q.length) = false := by simp; omega
        have d3 : ¬ (ps.length < q.length) := by omega
        have d4 : ¬ ((ps.length : Int) < (q.length : Int)) := by omega
        go_wp2_with fail
        go_quiet (fail)
        clear d1 d2 d3 d4
        have B' : Hid (Below w.heap.size w (wt.drewN nq)) := ⟨B.out.os, B.out.tape, B.out.output, B.out.size, B.out.block⟩
        replace B := B'
        clear B'
        as_aux_lemma =>
          go_wp2_with fail
          refine (HDP.out _ _ (code_after8c HC1.out B.out)).mono ?_
          rintro e w13 ⟨u, qn, sn, rfl, E, hr, b⟩
          obtain ⟨ea0, ek0, ea1, ek1, ea2, ek2, ea3, ek3, rfl, _, _, _, _⟩ := tu_form hr
          replace B : Hid (Below w.heap.size w w13) := B.out.trans (b.mono B.out.size)
          have RE := hid hr
          clear b hr   
          have b : Below w13.heap.size w13 (w13.alloc (.cells #[.slice ea0 E.f0.length ek0, .slice ea1 E.f1.length ek1, .slice ea2 E.f2.length ek2, .slice ea3 E.f3.length ek3, .int .i64 E.f4] 55)) := (Below.refl _ _).alloc (Nat.le_refl _) _
          replace RE := hid (RE.out.below b)
          replace B : Hid (Below w.heap.size w (w13.alloc (.cells #[.slice ea0 E.f0.length ek0, .slice ea1 E.f1.length ek1, .slice ea2 E.f2.length ek2, .slice ea3 E.f3.length ek3, .int .i64 E.f4] 55))) := B.out.trans (b.mono B.out.size)
          have KE := hid (boxL_new w13 [.slice ea0 E.f0.length ek0, .slice ea1 E.f1.length ek1, .slice ea2 E.f2.length ek2, .slice ea3 E.f3.length ek3, .int .i64 E.f4] 55)
          clear b
          obtain ⟨po, hpo⟩ : ∃ po, putOk E qn sn = po := ⟨_, rfl⟩
          obtain ⟨P, hP⟩ : ∃ P, putX E qn sn = P := ⟨_, rfl⟩
          have HPO := hid hpo; have HP := hid hP
          clear hpo hP
          obtain ⟨q00, q01, q02, q03, q04⟩ := KE.out.five
          go_wp2_with fail
          refine (iput_tells _ E qn sn _ RE.out).mono ?_
          rintro e w14 ⟨x, rfl, hx, b⟩
          rw [HPO.out]
          rw [HP.out] at hx
          obtain ⟨ma0, mk0, ma1, mk1, ma2, mk2, ma3, mk3, rfl, _, _, _, _⟩ := tu_form hx
          have RM := hid hx
          clear hx
          clear q00 q01 q02 q03 q04
          replace KE := hid (KE.out.below b KE.out.lt)
          replace RE := hid (RE.out.below b)
          replace B : Hid (Below w.heap.size w w14) := B.out.trans (b.mono B.out.size)
          clear b
          have b : Below w14.heap.size w14 (w14.alloc (.cells #[.slice ma0 P.f0.length mk0, .slice ma1 P.f1.length mk1, .slice ma2 P.f2.length mk2, .slice ma3 P.f3.length mk3, .int .i64 P.f4] 55)) := (Below.refl _ _).alloc (Nat.le_refl _) _
          replace KE := hid (KE.out.below b KE.out.lt)
          replace RE := hid (RE.out.below b)
          replace RM := hid (RM.out.below b)
          replace B : Hid (Below w.heap.size w (w14.alloc (.cells #[.slice ma0 P.f0.length mk0, .slice ma1 P.f1.length mk1, .slice ma2 P.f2.length mk2, .slice ma3 P.f3.length mk3, .int .i64 P.f4] 55))) := B.out.trans (b.mono B.out.size)
          have KM := hid (boxL_new w14 [.slice ma0 P.f0.length mk0, .slice ma1 P.f1.length mk1, .slice ma2 P.f2.length mk2, .slice ma3 P.f3.length mk3, .int .i64 P.f4] 55)
          clear b
          obtain ⟨q00, q01, q02, q03, q04⟩ := KE.out.five
          obtain ⟨q10, q11, q12, q13, q14⟩ := KM.out.five
          go_wp2_with fail
          refine (sput_tells _ E qn sn _ RE.out).mono ?_
          rintro e w15 ⟨x, rfl, hx, b⟩
          rw [HPO.out]
          rw [HP.out] at hx
          obtain ⟨na0, nk0, na1, nk1, na2, nk2, na3, nk3, rfl, _, _, _, _⟩ := tu_form hx
          have RN := hid hx
          clear hx
          clear q00 q01 q02 q03 q04 q10 q11 q12 q13 q14
          replace KE := hid (KE.out.below b KE.out.lt)
          replace KM := hid (KM.out.below b KM.out.lt)
          replace RE := hid (RE.out.below b)
          replace RM := hid (RM.out.below b)
          replace B : Hid (Below w.heap.size w w15) := B.out.trans (b.mono B.out.size)
          clear b
          have b : Below w15.heap.size w15 (w15.alloc (.cells #[.slice na0 P.f0.length nk0, .slice na1 P.f1.length nk1, .slice na2 P.f2.length nk2, .slice na3 P.f3.length nk3, .int .i64 P.f4] 55)) := (Below.refl _ _).alloc (Nat.le_refl _) _
          replace KE := hid (KE.out.below b KE.out.lt)
          replace KM := hid (KM.out.below b KM.out.lt)
          replace RE := hid (RE.out.below b)
          replace RM := hid (RM.out.below b)
          replace RN := hid (RN.out.below b)
          replace B : Hid (Below w.heap.size w (w15.alloc (.cells #[.slice na0 P.f0.length nk0, .slice na1 P.f1.length nk1, .slice na2 P.f2.length nk2, .slice na3 P.f3.length nk3, .int .i64 P.f4] 55))) := B.out.trans (b.mono B.out.size)
          have KN := hid (boxL_new w15 [.slice na0 P.f0.length nk0, .slice na1 P.f1.length nk1, .slice na2 P.f2.length nk2, .slice na3 P.f3.length nk3, .int .i64 P.f4] 55)
          clear b
          clear KE RE
          obtain ⟨q00, q01, q02, q03, q04⟩ := KM.out.five
          obtain ⟨q10, q11, q12, q13, q14⟩ := KN.out.five
          go_wp2_with fail
          refine (HDW.out _ _ (code_after8c HC1.out B.out)).mono ?_
          rintro e w16 ⟨v, rfl, xs, hv, b⟩
          obtain ⟨va, vk, rfl, _, _⟩ := id hv
          have RV := hid hv
          clear hv
          clear q00 q01 q02 q03 q04 q10 q11 q12 q13 q14
          replace KM := hid (KM.out.below b KM.out.lt)
          replace KN := hid (KN.out.below b KN.out.lt)
          replace RM := hid (RM.out.below b)
          replace RN := hid (RN.out.below b)
          replace B : Hid (Below w.heap.size w w16) := B.out.trans (b.mono B.out.size)
          clear b
          obtain ⟨no, hno⟩ : ∃ no, newOk xs = no := ⟨_, rfl⟩
          obtain ⟨Q, hQ⟩ : ∃ Q, newX xs = Q := ⟨_, rfl⟩
          have HNO := hid hno; have HQ := hid hQ
          clear hno hQ
          obtain ⟨q00, q01, q02, q03, q04⟩ := KM.out.five
          obtain ⟨q10, q11, q12, q13, q14⟩ := KN.out.five
          go_wp2_with fail
          refine (inew_tells _ xs _ RV.out).mono ?_
          rintro e w17 ⟨x, rfl, hx, b⟩
          rw [HNO.out]
          rw [HQ.out] at hx
          obtain ⟨ca0, ck0, ca1, ck1, ca2, ck2, ca3, ck3, rfl, _, _, _, _⟩ := tu_form hx
          have RC := hid hx
          clear hx
          clear q00 q01 q02 q03 q04 q10 q11 q12 q13 q14
          replace KM := hid (KM.out.below b KM.out.lt)
          replace KN := hid (KN.out.below b KN.out.lt)
          replace RM := hid (RM.out.below b)
          replace RN := hid (RN.out.below b)
          replace RV := hid (RV.out.below b)
          replace B : Hid (Below w.heap.size w w17) := B.out.trans (b.mono B.out.size)
          clear b
          have b : Below w17.heap.size w17 (w17.alloc (.cells #[.slice ca0 Q.f0.length ck0, .slice ca1 Q.f1.length ck1, .slice ca2 Q.f2.length ck2, .slice ca3 Q.f3.length ck3, .int .i64 Q.f4] 55)) := (Below.refl _ _).alloc (Nat.le_refl _) _
          replace KM := hid (KM.out.below b KM.out.lt)
          replace KN := hid (KN.out.below b KN.out.lt)
          replace RM := hid (RM.out.below b)
          replace RN := hid (RN.out.below b)
          replace RV := hid (RV.out.below b)
          replace RC := hid (RC.out.below b)
          replace B : Hid (Below w.heap.size w (w17.alloc (.cells #[.slice ca0 Q.f0.length ck0, .slice ca1 Q.f1.length ck1, .slice ca2 Q.f2.length ck2, .slice ca3 Q.f3.length ck3, .int .i64 Q.f4] 55))) := B.out.trans (b.mono B.out.size)
          have KC := hid (boxL_new w17 [.slice ca0 Q.f0.length ck0, .slice ca1 Q.f1.length ck1, .slice ca2 Q.f2.length ck2, .slice ca3 Q.f3.length ck3, .int .i64 Q.f4] 55)
          clear b
          obtain ⟨q00, q01, q02, q03, q04⟩ := KM.out.five
          obtain ⟨q10, q11, q12, q13, q14⟩ := KN.out.five
          obtain ⟨q20, q21, q22, q23, q24⟩ := KC.out.five
          go_wp2_with fail
          refine (snew_tells _ xs _ RV.out).mono ?_
          rintro e w18 ⟨x, rfl, hx, b⟩
          rw [HNO.out]
          rw [HQ.out] at hx
          obtain ⟨da0, dk0, da1, dk1, da2, dk2, da3, dk3, rfl, _, _, _, _⟩ := tu_form hx
          have RD := hid hx
          clear hx
          clear q00 q01 q02 q03 q04 q10 q11 q12 q13 q14 q20 q21 q22 q23 q24
          replace KM := hid (KM.out.below b KM.out.lt)
          replace KN := hid (KN.out.below b KN.out.lt)
          replace KC := hid (KC.out.below b KC.out.lt)
          replace RM := hid (RM.out.below b)
          replace RN := hid (RN.out.below b)
          replace RV := hid (RV.out.below b)
          replace RC := hid (RC.out.below b)
          replace B : Hid (Below w.heap.size w w18) := B.out.trans (b.mono B.out.size)
          clear b
          have b : Below w18.heap.size w18 (w18.alloc (.cells #[.slice da0 Q.f0.length dk0, .slice da1 Q.f1.length dk1, .slice da2 Q.f2.length dk2, .slice da3 Q.f3.length dk3, .int .i64 Q.f4] 55)) := (Below.refl _ _).alloc (Nat.le_refl _) _
          replace KM := hid (KM.out.below b KM.out.lt)
          replace KN := hid (KN.out.below b KN.out.lt)
          replace KC := hid (KC.out.below b KC.out.lt)
          replace RM := hid (RM.out.below b)
          replace RN := hid (RN.out.below b)
          replace RV := hid (RV.out.below b)
          replace RC := hid (RC.out.below b)
          replace RD := hid (RD.out.below b)
          replace B : Hid (Below w.heap.size w (w18.alloc (.cells #[.slice da0 Q.f0.length dk0, .slice da1 Q.f1.length dk1, .slice da2 Q.f2.length dk2, .slice da3 Q.f3.length dk3, .int .i64 Q.f4] 55))) := B.out.trans (b.mono B.out.size)
          have KD := hid (boxL_new w18 [.slice da0 Q.f0.length dk0, .slice da1 Q.f1.length dk1, .slice da2 Q.f2.length dk2, .slice da3 Q.f3.length dk3, .int .i64 Q.f4] 55)
          clear b
          have n1 : (po == po) = true := by cases po <;> rfl
          have n2 : (no == no) = true := by cases no <;> rfl
          obtain ⟨q00, q01, q02, q03, q04⟩ := KM.out.five
          obtain ⟨q10, q11, q12, q13, q14⟩ := KN.out.five
          obtain ⟨q20, q21, q22, q23, q24⟩ := KC.out.five
          obtain ⟨q30, q31, q32, q33, q34⟩ := KD.out.five
          go_wp2_with fail
          refine (sameTurns_same _ _ P _ RM.out RN.out).mono ?_
          rintro e w19 ⟨rfl, b⟩
          clear q00 q01 q02 q03 q04 q10 q11 q12 q13 q14 q20 q21 q22 q23 q24 q30 q31 q32 q33 q34
          replace KM := hid (KM.out.below b KM.out.lt)
          replace KN := hid (KN.out.below b KN.out.lt)
          replace KC := hid (KC.out.below b KC.out.lt)
          replace KD := hid (KD.out.below b KD.out.lt)
          replace RM := hid (RM.out.below b)
          replace RN := hid (RN.out.below b)
          replace RV := hid (RV.out.below b)
          replace RC := hid (RC.out.below b)
          replace RD := hid (RD.out.below b)
          replace B : Hid (Below w.heap.size w w19) := B.out.trans (b.mono B.out.size)
          clear b
          obtain ⟨q00, q01, q02, q03, q04⟩ := KM.out.five
          obtain ⟨q10, q11, q12, q13, q14⟩ := KN.out.five
          obtain ⟨q20, q21, q22, q23, q24⟩ := KC.out.five
          obtain ⟨q30, q31, q32, q33, q34⟩ := KD.out.five
          go_wp2_with fail
          refine (sameTurns_same _ _ Q _ RC.out RD.out).mono ?_
          rintro e w20 ⟨rfl, b⟩
          clear q00 q01 q02 q03 q04 q10 q11 q12 q13 q14 q20 q21 q22 q23 q24 q30 q31 q32 q33 q34
          replace KM := hid (KM.out.below b KM.out.lt)
          replace KN := hid (KN.out.below b KN.out.lt)
          replace KC := hid (KC.out.below b KC.out.lt)
          replace KD := hid (KD.out.below b KD.out.lt)
          replace RM := hid (RM.out.below b)
          replace RN := hid (RN.out.below b)
          replace RV := hid (RV.out.below b)
          replace RC := hid (RC.out.below b)
          replace RD := hid (RD.out.below b)
          replace B : Hid (Below w.heap.size w w20) := B.out.trans (b.mono B.out.size)
          clear b
          cases po
          case false =>
            obtain ⟨q00, q01, q02, q03, q04⟩ := KM.out.five
            obtain ⟨q10, q11, q12, q13, q14⟩ := KN.out.five
            obtain ⟨q20, q21, q22, q23, q24⟩ := KC.out.five
            obtain ⟨q30, q31, q32, q33, q34⟩ := KD.out.five
            go_wp2
            go_ret
            exact ⟨rfl, B.out⟩
          have HGP : Hid (goodTu P = true) := by rw [← HP.out]; exact put_good HPO.out
          obtain ⟨q00, q01, q02, q03, q04⟩ := KM.out.five
          obtain ⟨q10, q11, q12, q13, q14⟩ := KN.out.five
          obtain ⟨q20, q21, q22, q23, q24⟩ := KC.out.five
          obtain ⟨q30, q31, q32, q33, q34⟩ := KD.out.five
          go_wp2_with fail
          refine (igoodT_eq _ P true HGP.out _ RM.out).mono ?_
          rintro e w21 ⟨rfl, b⟩
          clear q00 q01 q02 q03 q04 q10 q11 q12 q13 q14 q20 q21 q22 q23 q24 q30 q31 q32 q33 q34
          replace KM := hid (KM.out.below b KM.out.lt)
          replace KN := hid (KN.out.below b KN.out.lt)
          replace KC := hid (KC.out.below b KC.out.lt)
          replace KD := hid (KD.out.below b KD.out.lt)
          replace RM := hid (RM.out.below b)
          replace RN := hid (RN.out.below b)
          replace RV := hid (RV.out.below b)
          replace RC := hid (RC.out.below b)
          replace RD := hid (RD.out.below b)
          replace B : Hid (Below w.heap.size w w21) := B.out.trans (b.mono B.out.size)
          clear b
          go_wp2
          go_ret
          exact ⟨rfl, B.out⟩
    by_cases hcap : ps.length = kq
    case pos =>
      have hcap2 : (kq : Int) = (ps.length : Int) := by omega
      have hcap3 : kq = ps.length := hcap.symm
      have hcap4 : kq - ps.length = 0 := by omega
      rw [hcap3] at HPQ
      have HRL := hid (HRA.out (some ⟨gq, oq, sp⟩) 0)
      clear HRA hcap
      as_aux_lemma =>
        have HSI : Hid (∀ v u wq, ((v = .slice xp ps.length xq ∧ u = .slice (some ⟨gq, oq, sp⟩) ps.length ps.length) ∨ (v = .slice al l.length kl ∧ u = .slice (some ⟨gq, oq, sp⟩) l.length 0)) → Below w12.heap.size w12 wq → Calls Try.prog 13 #[v, u] wq fun e w' => e = .returned (.bool true) ∧ Below wq.heap.size wq w') := fun v u wq hv hq => by
          rcases hv with ⟨rfl, rfl⟩ | ⟨rfl, rfl⟩
          · exact (sameK_same _ _ ps wq (RP.out.below hq) (HPQ.out.below hq)).mono fun _ _ ⟨he, hm⟩ => ⟨he, sameK_below hm⟩
          · exact (sameK_same _ _ l wq (RLV.out.below hq) (HRL.out.below hq)).mono fun _ _ ⟨he, hm⟩ => ⟨he, sameK_below hm⟩
        have HSO : Hid (∀ wq, Below w12.heap.size w12 wq → Calls Try.prog 14 #[.slice xp ps.length xq] wq fun e w' => e = .returned (.int .i64 sm) ∧ w' = wq) := fun wq hq => by
          have h := sumOf_any _ ps wq (RP.out.below hq) (by have := TT.out.small.1; omega) HFL.out
          rw [show psum (fl ps) ps.length = sm from HSM.out] at h
          exact h
        have HGO : Hid (∀ wq, Below w12.heap.size w12 wq → Calls Try.prog 41 #[.agg #[.slice xa0 X.f0.length xk0, .slice (some ⟨h1, p1, none⟩) X.f1.length xk1, .slice (some ⟨h2, p2, none⟩) X.f2.length xk2, .slice xa3 X.f3.length xk3, .int .i64 X.f4]] wq fun e w' => e = .returned (.bool true) ∧ Below wq.heap.size wq w') := fun wq hq => igoodT_eq _ X true TT.out.gx wq (RX.out.below hq)
        have qX : Below w12.heap.size w12 w12.drew := (Below.refl _ _).drew
        go_wp2_with fail
        go_region_held3 (fun w' => w'.cell? ⟨w2.heap.size, 0, none⟩ = some (.slice xa0 X.f0.length xk0) ∧ w'.cell? ⟨w2.heap.size, 1, none⟩ = some (.slice (some ⟨h1, p1, none⟩) X.f1.length xk1) ∧ w'.cell? ⟨w2.heap.size, 2, none⟩ = some (.slice (some ⟨h2, p2, none⟩) X.f2.length xk2) ∧ w'.cell? ⟨w2.heap.size, 3, none⟩ = some (.slice xa3 X.f3.length xk3) ∧ w'.cell? ⟨w2.heap.size, 4, none⟩ = some (.int .i64 X.f4) ∧ w'.cell? ⟨w1.heap.size, 4, none⟩ = some (.int .i64 (k : Int)) ∧ w'.cell? ⟨h1, p1 + k, none⟩ = some (.slice al l.length kl) ∧ Below w12.heap.size w12 w') (first | (refine ⟨?_, ?_, ?_, ?_, ?_, ?_, ?_, ?_⟩ <;> assumption) | exact ⟨s0, s1, s2, s3, s4, r4, e2, qX⟩)
          (first | (go_at_call 41; refine (HGO.out _ (show Below w12.heap.size w12 _ by first | assumption | exact (by assumption : _ ∧ _ ∧ _ ∧ _ ∧ _ ∧ _ ∧ _ ∧ Below w12.heap.size w12 _).2.2.2.2.2.2.2)).mono ?_; rintro e wt ⟨rfl, b⟩; have qX := Below.trans (show Below w12.heap.size w12 _ by first | assumption | exact (by assumption : _ ∧ _ ∧ _ ∧ _ ∧ _ ∧ _ ∧ _ ∧ Below w12.heap.size w12 _).2.2.2.2.2.2.2) (b.mono (Below.size (show Below w12.heap.size w12 _ by first | assumption | exact (by assumption : _ ∧ _ ∧ _ ∧ _ ∧ _ ∧ _ ∧ _ ∧ Below w12.heap.size w12 _).2.2.2.2.2.2.2))); obtain ⟨s0, s1, s2, s3, s4⟩ := (KX.out.below qX KX.out.lt).five; have r4 := (KT.out.below qX KT.out.lt).five.2.2.2.2; have e2 := (World.cell?_of_block (a := ⟨h1, p1 + k, none⟩) (qX.block h1 (lt_of_cell HE2.out))).trans HE2.out) | (go_at_call 14; refine (HSO.out _ (show Below w12.heap.size w12 _ by first | assumption | exact (by assumption : _ ∧ _ ∧ _ ∧ _ ∧ _ ∧ _ ∧ _ ∧ Below w12.heap.size w12 _).2.2.2.2.2.2.2)).mono ?_; rintro e w' ⟨rfl, hw⟩; obtain rfl := hw.symm) | (go_at_call 13; refine (HSI.out _ _ _ (by first | exact .inl ⟨rfl, rfl⟩ | exact .inr ⟨rfl, rfl⟩) (show Below w12.heap.size w12 _ by first | assumption | exact (by assumption : _ ∧ _ ∧ _ ∧ _ ∧ _ ∧ _ ∧ _ ∧ Below w12.heap.size w12 _).2.2.2.2.2.2.2)).mono ?_; rintro e wt ⟨rfl, b⟩; have qX := Below.trans (show Below w12.heap.size w12 _ by first | assumption | exact (by assumption : _ ∧ _ ∧ _ ∧ _ ∧ _ ∧ _ ∧ _ ∧ Below w12.heap.size w12 _).2.2.2.2.2.2.2) (b.mono (Below.size (show Below w12.heap.size w12 _ by first | assumption | exact (by assumption : _ ∧ _ ∧ _ ∧ _ ∧ _ ∧ _ ∧ _ ∧ Below w12.heap.size w12 _).2.2.2.2.2.2.2))); obtain ⟨s0, s1, s2, s3, s4⟩ := (KX.out.below qX KX.out.lt).five; have r4 := (KT.out.below qX KT.out.lt).five.2.2.2.2; have e2 := (World.cell?_of_block (a := ⟨h1, p1 + k, none⟩) (qX.block h1 (lt_of_cell HE2.out))).trans HE2.out))
        replace B : Hid (Below w.heap.size w wt) := B.out.trans (qX.mono B.out.size)
        have HQX := hid qX
        clear s0 s1 s3 s4 e2 r4 s2
        have hz : q.length = ps.length := by have := HLEN.out; rw [HL0.out] at this; simpa using this
        have d1 : decide ((ps.length : Int) < (q.length : Int)) = false := by simp; omega
        have d2 : decide (ps.length < q.length) = false := by simp; omega
        have d3 : ¬ (ps.length < q.length) := by omega
        have d4 : ¬ ((ps.length : Int) < (q.length : Int)) := by omega
        go_wp2_with fail
        go_quiet (fail)
        clear d1 d2 d3 d4
        have B' : Hid (Below w.heap.size w (wt.drewN nq)) := ⟨B.out.os, B.out.tape, B.out.output, B.out.size, B.out.block⟩
        replace B := B'
        clear B'
        as_aux_lemma =>
          go_wp2_with fail
          refine (HDP.out _ _ (code_after8c HC1.out B.out)).mono ?_
          rintro e w13 ⟨u, qn, sn, rfl, E, hr, b⟩
          obtain ⟨ea0, ek0, ea1, ek1, ea2, ek2, ea3, ek3, rfl, _, _, _, _⟩ := tu_form hr
          replace B : Hid (Below w.heap.size w w13) := B.out.trans (b.mono B.out.size)
          have RE := hid hr
          clear b hr   
          have b : Below w13.heap.size w13 (w13.alloc (.cells #[.slice ea0 E.f0.length ek0, .slice ea1 E.f1.length ek1, .slice ea2 E.f2.length ek2, .slice ea3 E.f3.length ek3, .int .i64 E.f4] 55)) := (Below.refl _ _).alloc (Nat.le_refl _) _
          replace RE := hid (RE.out.below b)
          replace B : Hid (Below w.heap.size w (w13.alloc (.cells #[.slice ea0 E.f0.length ek0, .slice ea1 E.f1.length ek1, .slice ea2 E.f2.length ek2, .slice ea3 E.f3.length ek3, .int .i64 E.f4] 55))) := B.out.trans (b.mono B.out.size)
          have KE := hid (boxL_new w13 [.slice ea0 E.f0.length ek0, .slice ea1 E.f1.length ek1, .slice ea2 E.f2.length ek2, .slice ea3 E.f3.length ek3, .int .i64 E.f4] 55)
          clear b
          obtain ⟨po, hpo⟩ : ∃ po, putOk E qn sn = po := ⟨_, rfl⟩
          obtain ⟨P, hP⟩ : ∃ P, putX E qn sn = P := ⟨_, rfl⟩
          have HPO := hid hpo; have HP := hid hP
          clear hpo hP
          obtain ⟨q00, q01, q02, q03, q04⟩ := KE.out.five
          go_wp2_with fail
          refine (iput_tells _ E qn sn _ RE.out).mono ?_
          rintro e w14 ⟨x, rfl, hx, b⟩
          rw [HPO.out]
          rw [HP.out] at hx
          obtain ⟨ma0, mk0, ma1, mk1, ma2, mk2, ma3, mk3, rfl, _, _, _, _⟩ := tu_form hx
          have RM := hid hx
          clear hx
          clear q00 q01 q02 q03 q04
          replace KE := hid (KE.out.below b KE.out.lt)
          replace RE := hid (RE.out.below b)
          replace B : Hid (Below w.heap.size w w14) := B.out.trans (b.mono B.out.size)
          clear b
          have b : Below w14.heap.size w14 (w14.alloc (.cells #[.slice ma0 P.f0.length mk0, .slice ma1 P.f1.length mk1, .slice ma2 P.f2.length mk2, .slice ma3 P.f3.length mk3, .int .i64 P.f4] 55)) := (Below.refl _ _).alloc (Nat.le_refl _) _
          replace KE := hid (KE.out.below b KE.out.lt)
          replace RE := hid (RE.out.below b)
          replace RM := hid (RM.out.below b)
          replace B : Hid (Below w.heap.size w (w14.alloc (.cells #[.slice ma0 P.f0.length mk0, .slice ma1 P.f1.length mk1, .slice ma2 P.f2.length mk2, .slice ma3 P.f3.length mk3, .int .i64 P.f4] 55))) := B.out.trans (b.mono B.out.size)
          have KM := hid (boxL_new w14 [.slice ma0 P.f0.length mk0, .slice ma1 P.f1.length mk1, .slice ma2 P.f2.length mk2, .slice ma3 P.f3.length mk3, .int .i64 P.f4] 55)
          clear b
          obtain ⟨q00, q01, q02, q03, q04⟩ := KE.out.five
          obtain ⟨q10, q11, q12, q13, q14⟩ := KM.out.five
          go_wp2_with fail
          refine (sput_tells _ E qn sn _ RE.out).mono ?_
          rintro e w15 ⟨x, rfl, hx, b⟩
          rw [HPO.out]
          rw [HP.out] at hx
          obtain ⟨na0, nk0, na1, nk1, na2, nk2, na3, nk3, rfl, _, _, _, _⟩ := tu_form hx
          have RN := hid hx
          clear hx
          clear q00 q01 q02 q03 q04 q10 q11 q12 q13 q14
          replace KE := hid (KE.out.below b KE.out.lt)
          replace KM := hid (KM.out.below b KM.out.lt)
          replace RE := hid (RE.out.below b)
          replace RM := hid (RM.out.below b)
          replace B : Hid (Below w.heap.size w w15) := B.out.trans (b.mono B.out.size)
          clear b
          have b : Below w15.heap.size w15 (w15.alloc (.cells #[.slice na0 P.f0.length nk0, .slice na1 P.f1.length nk1, .slice na2 P.f2.length nk2, .slice na3 P.f3.length nk3, .int .i64 P.f4] 55)) := (Below.refl _ _).alloc (Nat.le_refl _) _
          replace KE := hid (KE.out.below b KE.out.lt)
          replace KM := hid (KM.out.below b KM.out.lt)
          replace RE := hid (RE.out.below b)
          replace RM := hid (RM.out.below b)
          replace RN := hid (RN.out.below b)
          replace B : Hid (Below w.heap.size w (w15.alloc (.cells #[.slice na0 P.f0.length nk0, .slice na1 P.f1.length nk1, .slice na2 P.f2.length nk2, .slice na3 P.f3.length nk3, .int .i64 P.f4] 55))) := B.out.trans (b.mono B.out.size)
          have KN := hid (boxL_new w15 [.slice na0 P.f0.length nk0, .slice na1 P.f1.length nk1, .slice na2 P.f2.length nk2, .slice na3 P.f3.length nk3, .int .i64 P.f4] 55)
          clear b
          clear KE RE
          obtain ⟨q00, q01, q02, q03, q04⟩ := KM.out.five
          obtain ⟨q10, q11, q12, q13, q14⟩ := KN.out.five
          go_wp2_with fail
          refine (HDW.out _ _ (code_after8c HC1.out B.out)).mono ?_
          rintro e w16 ⟨v, rfl, xs, hv, b⟩
          obtain ⟨va, vk, rfl, _, _⟩ := id hv
          have RV := hid hv
          clear hv
          clear q00 q01 q02 q03 q04 q10 q11 q12 q13 q14
          replace KM := hid (KM.out.below b KM.out.lt)
          replace KN := hid (KN.out.below b KN.out.lt)
          replace RM := hid (RM.out.below b)
          replace RN := hid (RN.out.below b)
          replace B : Hid (Below w.heap.size w w16) := B.out.trans (b.mono B.out.size)
          clear b
          obtain ⟨no, hno⟩ : ∃ no, newOk xs = no := ⟨_, rfl⟩
          obtain ⟨Q, hQ⟩ : ∃ Q, newX xs = Q := ⟨_, rfl⟩
          have HNO := hid hno; have HQ := hid hQ
          clear hno hQ
          obtain ⟨q00, q01, q02, q03, q04⟩ := KM.out.five
          obtain ⟨q10, q11, q12, q13, q14⟩ := KN.out.five
          go_wp2_with fail
          refine (inew_tells _ xs _ RV.out).mono ?_
          rintro e w17 ⟨x, rfl, hx, b⟩
          rw [HNO.out]
          rw [HQ.out] at hx
          obtain ⟨ca0, ck0, ca1, ck1, ca2, ck2, ca3, ck3, rfl, _, _, _, _⟩ := tu_form hx
          have RC := hid hx
          clear hx
          clear q00 q01 q02 q03 q04 q10 q11 q12 q13 q14
          replace KM := hid (KM.out.below b KM.out.lt)
          replace KN := hid (KN.out.below b KN.out.lt)
          replace RM := hid (RM.out.below b)
          replace RN := hid (RN.out.below b)
          replace RV := hid (RV.out.below b)
          replace B : Hid (Below w.heap.size w w17) := B.out.trans (b.mono B.out.size)
          clear b
          have b : Below w17.heap.size w17 (w17.alloc (.cells #[.slice ca0 Q.f0.length ck0, .slice ca1 Q.f1.length ck1, .slice ca2 Q.f2.length ck2, .slice ca3 Q.f3.length ck3, .int .i64 Q.f4] 55)) := (Below.refl _ _).alloc (Nat.le_refl _) _
          replace KM := hid (KM.out.below b KM.out.lt)
          replace KN := hid (KN.out.below b KN.out.lt)
          replace RM := hid (RM.out.below b)
          replace RN := hid (RN.out.below b)
          replace RV := hid (RV.out.below b)
          replace RC := hid (RC.out.below b)
          replace B : Hid (Below w.heap.size w (w17.alloc (.cells #[.slice ca0 Q.f0.length ck0, .slice ca1 Q.f1.length ck1, .slice ca2 Q.f2.length ck2, .slice ca3 Q.f3.length ck3, .int .i64 Q.f4] 55))) := B.out.trans (b.mono B.out.size)
          have KC := hid (boxL_new w17 [.slice ca0 Q.f0.length ck0, .slice ca1 Q.f1.length ck1, .slice ca2 Q.f2.length ck2, .slice ca3 Q.f3.length ck3, .int .i64 Q.f4] 55)
          clear b
          obtain ⟨q00, q01, q02, q03, q04⟩ := KM.out.five
          obtain ⟨q10, q11, q12, q13, q14⟩ := KN.out.five
          obtain ⟨q20, q21, q22, q23, q24⟩ := KC.out.five
          go_wp2_with fail
          refine (snew_tells _ xs _ RV.out).mono ?_
          rintro e w18 ⟨x, rfl, hx, b⟩
          rw [HNO.out]
          rw [HQ.out] at hx
          obtain ⟨da0, dk0, da1, dk1, da2, dk2, da3, dk3, rfl, _, _, _, _⟩ := tu_form hx
          have RD := hid hx
          clear hx
          clear q00 q01 q02 q03 q04 q10 q11 q12 q13 q14 q20 q21 q22 q23 q24
          replace KM := hid (KM.out.below b KM.out.lt)
          replace KN := hid (KN.out.below b KN.out.lt)
          replace KC := hid (KC.out.below b KC.out.lt)
          replace RM := hid (RM.out.below b)
          replace RN := hid (RN.out.below b)
          replace RV := hid (RV.out.below b)
          replace RC := hid (RC.out.below b)
          replace B : Hid (Below w.heap.size w w18) := B.out.trans (b.mono B.out.size)
          clear b
          have b : Below w18.heap.size w18 (w18.alloc (.cells #[.slice da0 Q.f0.length dk0, .slice da1 Q.f1.length dk1, .slice da2 Q.f2.length dk2, .slice da3 Q.f3.length dk3, .int .i64 Q.f4] 55)) := (Below.refl _ _).alloc (Nat.le_refl _) _
          replace KM := hid (KM.out.below b KM.out.lt)
          replace KN := hid (KN.out.below b KN.out.lt)
          replace KC := hid (KC.out.below b KC.out.lt)
          replace RM := hid (RM.out.below b)
          replace RN := hid (RN.out.below b)
          replace RV := hid (RV.out.below b)
          replace RC := hid (RC.out.below b)
          replace RD := hid (RD.out.below b)
          replace B : Hid (Below w.heap.size w (w18.alloc (.cells #[.slice da0 Q.f0.length dk0, .slice da1 Q.f1.length dk1, .slice da2 Q.f2.length dk2, .slice da3 Q.f3.length dk3, .int .i64 Q.f4] 55))) := B.out.trans (b.mono B.out.size)
          have KD := hid (boxL_new w18 [.slice da0 Q.f0.length dk0, .slice da1 Q.f1.length dk1, .slice da2 Q.f2.length dk2, .slice da3 Q.f3.length dk3, .int .i64 Q.f4] 55)
          clear b
          have n1 : (po == po) = true := by cases po <;> rfl
          have n2 : (no == no) = true := by cases no <;> rfl
          obtain ⟨q00, q01, q02, q03, q04⟩ := KM.out.five
          obtain ⟨q10, q11, q12, q13, q14⟩ := KN.out.five
          obtain ⟨q20, q21, q22, q23, q24⟩ := KC.out.five
          obtain ⟨q30, q31, q32, q33, q34⟩ := KD.out.five
          go_wp2_with fail
          refine (sameTurns_same _ _ P _ RM.out RN.out).mono ?_
          rintro e w19 ⟨rfl, b⟩
          clear q00 q01 q02 q03 q04 q10 q11 q12 q13 q14 q20 q21 q22 q23 q24 q30 q31 q32 q33 q34
          replace KM := hid (KM.out.below b KM.out.lt)
          replace KN := hid (KN.out.below b KN.out.lt)
          replace KC := hid (KC.out.below b KC.out.lt)
          replace KD := hid (KD.out.below b KD.out.lt)
          replace RM := hid (RM.out.below b)
          replace RN := hid (RN.out.below b)
          replace RV := hid (RV.out.below b)
          replace RC := hid (RC.out.below b)
          replace RD := hid (RD.out.below b)
          replace B : Hid (Below w.heap.size w w19) := B.out.trans (b.mono B.out.size)
          clear b
          obtain ⟨q00, q01, q02, q03, q04⟩ := KM.out.five
          obtain ⟨q10, q11, q12, q13, q14⟩ := KN.out.five
          obtain ⟨q20, q21, q22, q23, q24⟩ := KC.out.five
          obtain ⟨q30, q31, q32, q33, q34⟩ := KD.out.five
          go_wp2_with fail
          refine (sameTurns_same _ _ Q _ RC.out RD.out).mono ?_
          rintro e w20 ⟨rfl, b⟩
          clear q00 q01 q02 q03 q04 q10 q11 q12 q13 q14 q20 q21 q22 q23 q24 q30 q31 q32 q33 q34
          replace KM := hid (KM.out.below b KM.out.lt)
          replace KN := hid (KN.out.below b KN.out.lt)
          replace KC := hid (KC.out.below b KC.out.lt)
          replace KD := hid (KD.out.below b KD.out.lt)
          replace RM := hid (RM.out.below b)
          replace RN := hid (RN.out.below b)
          replace RV := hid (RV.out.below b)
          replace RC := hid (RC.out.below b)
          replace RD := hid (RD.out.below b)
          replace B : Hid (Below w.heap.size w w20) := B.out.trans (b.mono B.out.size)
          clear b
          cases po
          case false =>
            obtain ⟨q00, q01, q02, q03, q04⟩ := KM.out.five
            obtain ⟨q10, q11, q12, q13, q14⟩ := KN.out.five
            obtain ⟨q20, q21, q22, q23, q24⟩ := KC.out.five
            obtain ⟨q30, q31, q32, q33, q34⟩ := KD.out.five
            go_wp2
            go_ret
            exact ⟨rfl, B.out⟩
          have HGP : Hid (goodTu P = true) := by rw [← HP.out]; exact put_good HPO.out
          obtain ⟨q00, q01, q02, q03, q04⟩ := KM.out.five
          obtain ⟨q10, q11, q12, q13, q14⟩ := KN.out.five
          obtain ⟨q20, q21, q22, q23, q24⟩ := KC.out.five
          obtain ⟨q30, q31, q32, q33, q34⟩ := KD.out.five
          go_wp2_with fail
          refine (igoodT_eq _ P true HGP.out _ RM.out).mono ?_
          rintro e w21 ⟨rfl, b⟩
          clear q00 q01 q02 q03 q04 q10 q11 q12 q13 q14 q20 q21 q22 q23 q24 q30 q31 q32 q33 q34
          replace KM := hid (KM.out.below b KM.out.lt)
          replace KN := hid (KN.out.below b KN.out.lt)
          replace KC := hid (KC.out.below b KC.out.lt)
          replace KD := hid (KD.out.below b KD.out.lt)
          replace RM := hid (RM.out.below b)
          replace RN := hid (RN.out.below b)
          replace RV := hid (RV.out.below b)
          replace RC := hid (RC.out.below b)
          replace RD := hid (RD.out.below b)
          replace B : Hid (Below w.heap.size w w21) := B.out.trans (b.mono B.out.size)
          clear b
          go_wp2
          go_ret
          exact ⟨rfl, B.out⟩
    have hcap2 : ¬ (kq : Int) = (ps.length : Int) := by omega
    have hcap3 : ¬ kq = ps.length := fun h => hcap h.symm
    have HRL := hid (HRA.out (some (Addr.add ⟨gq, oq, sp⟩ ps.length)) (kq - ps.length))
    clear HRA
    as_aux_lemma =>
      have HSI : Hid (∀ v u wq, ((v = .slice xp ps.length xq ∧ u = .slice (some ⟨gq, oq, sp⟩) ps.length kq) ∨ (v = .slice al l.length kl ∧ u = .slice (some (Addr.add ⟨gq, oq, sp⟩ ps.length)) l.length (kq - ps.length))) → Below w12.heap.size w12 wq → Calls Try.prog 13 #[v, u] wq fun e w' => e = .returned (.bool true) ∧ Below wq.heap.size wq w') := fun v u wq hv hq => by
        rcases hv with ⟨rfl, rfl⟩ | ⟨rfl, rfl⟩
        · exact (sameK_same _ _ ps wq (RP.out.below hq) (HPQ.out.below hq)).mono fun _ _ ⟨he, hm⟩ => ⟨he, sameK_below hm⟩
        · exact (sameK_same _ _ l wq (RLV.out.below hq) (HRL.out.below hq)).mono fun _ _ ⟨he, hm⟩ => ⟨he, sameK_below hm⟩
      have HSO : Hid (∀ wq, Below w12.heap.size w12 wq → Calls Try.prog 14 #[.slice xp ps.length xq] wq fun e w' => e = .returned (.int .i64 sm) ∧ w' = wq) := fun wq hq => by
        have h := sumOf_any _ ps wq (RP.out.below hq) (by have := TT.out.small.1; omega) HFL.out
        rw [show psum (fl ps) ps.length = sm from HSM.out] at h
        exact h
      have HGO : Hid (∀ wq, Below w12.heap.size w12 wq → Calls Try.prog 41 #[.agg #[.slice xa0 X.f0.length xk0, .slice (some ⟨h1, p1, none⟩) X.f1.length xk1, .slice (some ⟨h2, p2, none⟩) X.f2.length xk2, .slice xa3 X.f3.length xk3, .int .i64 X.f4]] wq fun e w' => e = .returned (.bool true) ∧ Below wq.heap.size wq w') := fun wq hq => igoodT_eq _ X true TT.out.gx wq (RX.out.below hq)
      have qX : Below w12.heap.size w12 w12.drew := (Below.refl _ _).drew
      go_wp2_with fail
      go_region_held3 (fun w' => w'.cell? ⟨w2.heap.size, 0, none⟩ = some (.slice xa0 X.f0.length xk0) ∧ w'.cell? ⟨w2.heap.size, 1, none⟩ = some (.slice (some ⟨h1, p1, none⟩) X.f1.length xk1) ∧ w'.cell? ⟨w2.heap.size, 2, none⟩ = some (.slice (some ⟨h2, p2, none⟩) X.f2.length xk2) ∧ w'.cell? ⟨w2.heap.size, 3, none⟩ = some (.slice xa3 X.f3.length xk3) ∧ w'.cell? ⟨w2.heap.size, 4, none⟩ = some (.int .i64 X.f4) ∧ w'.cell? ⟨w1.heap.size, 4, none⟩ = some (.int .i64 (k : Int)) ∧ w'.cell? ⟨h1, p1 + k, none⟩ = some (.slice al l.length kl) ∧ Below w12.heap.size w12 w') (first | (refine ⟨?_, ?_, ?_, ?_, ?_, ?_, ?_, ?_⟩ <;> assumption) | exact ⟨s0, s1, s2, s3, s4, r4, e2, qX⟩)
        (first | (go_at_call 41; refine (HGO.out _ (show Below w12.heap.size w12 _ by first | assumption | exact (by assumption : _ ∧ _ ∧ _ ∧ _ ∧ _ ∧ _ ∧ _ ∧ Below w12.heap.size w12 _).2.2.2.2.2.2.2)).mono ?_; rintro e wt ⟨rfl, b⟩; have qX := Below.trans (show Below w12.heap.size w12 _ by first | assumption | exact (by assumption : _ ∧ _ ∧ _ ∧ _ ∧ _ ∧ _ ∧ _ ∧ Below w12.heap.size w12 _).2.2.2.2.2.2.2) (b.mono (Below.size (show Below w12.heap.size w12 _ by first | assumption | exact (by assumption : _ ∧ _ ∧ _ ∧ _ ∧ _ ∧ _ ∧ _ ∧ Below w12.heap.size w12 _).2.2.2.2.2.2.2))); obtain ⟨s0, s1, s2, s3, s4⟩ := (KX.out.below qX KX.out.lt).five; have r4 := (KT.out.below qX KT.out.lt).five.2.2.2.2; have e2 := (World.cell?_of_block (a := ⟨h1, p1 + k, none⟩) (qX.block h1 (lt_of_cell HE2.out))).trans HE2.out) | (go_at_call 14; refine (HSO.out _ (show Below w12.heap.size w12 _ by first | assumption | exact (by assumption : _ ∧ _ ∧ _ ∧ _ ∧ _ ∧ _ ∧ _ ∧ Below w12.heap.size w12 _).2.2.2.2.2.2.2)).mono ?_; rintro e w' ⟨rfl, hw⟩; obtain rfl := hw.symm) | (go_at_call 13; refine (HSI.out _ _ _ (by first | exact .inl ⟨rfl, rfl⟩ | exact .inr ⟨rfl, rfl⟩) (show Below w12.heap.size w12 _ by first | assumption | exact (by assumption : _ ∧ _ ∧ _ ∧ _ ∧ _ ∧ _ ∧ _ ∧ Below w12.heap.size w12 _).2.2.2.2.2.2.2)).mono ?_; rintro e wt ⟨rfl, b⟩; have qX := Below.trans (show Below w12.heap.size w12 _ by first | assumption | exact (by assumption : _ ∧ _ ∧ _ ∧ _ ∧ _ ∧ _ ∧ _ ∧ Below w12.heap.size w12 _).2.2.2.2.2.2.2) (b.mono (Below.size (show Below w12.heap.size w12 _ by first | assumption | exact (by assumption : _ ∧ _ ∧ _ ∧ _ ∧ _ ∧ _ ∧ _ ∧ Below w12.heap.size w12 _).2.2.2.2.2.2.2))); obtain ⟨s0, s1, s2, s3, s4⟩ := (KX.out.below qX KX.out.lt).five; have r4 := (KT.out.below qX KT.out.lt).five.2.2.2.2; have e2 := (World.cell?_of_block (a := ⟨h1, p1 + k, none⟩) (qX.block h1 (lt_of_cell HE2.out))).trans HE2.out))
      replace B : Hid (Below w.heap.size w wt) := B.out.trans (qX.mono B.out.size)
      have HQX := hid qX
      clear s0 s1 s3 s4 e2 r4 s2
      have hz : q.length = ps.length := by have := HLEN.out; rw [HL0.out] at this; simpa using this
      have d1 : decide ((ps.length : Int) < (q.length : Int)) = false := by simp; omega
      have d2 : decide (ps.length < q.length) = false := by simp; omega
      have d3 : ¬ (ps.length < q.length) := by omega
      have d4 : ¬ ((ps.length : Int) < (q.length : Int)) := by omega
      go_wp2_with fail
      go_quiet (fail)
      clear d1 d2 d3 d4
      have B' : Hid (Below w.heap.size w (wt.drewN nq)) := ⟨B.out.os, B.out.tape, B.out.output, B.out.size, B.out.block⟩
      replace B := B'
      clear B'
      as_aux_lemma =>
        go_wp2_with fail
        refine (HDP.out _ _ (code_after8c HC1.out B.out)).mono ?_
        rintro e w13 ⟨u, qn, sn, rfl, E, hr, b⟩
        obtain ⟨ea0, ek0, ea1, ek1, ea2, ek2, ea3, ek3, rfl, _, _, _, _⟩ := tu_form hr
        replace B : Hid (Below w.heap.size w w13) := B.out.trans (b.mono B.out.size)
        have RE := hid hr
        clear b hr   
        have b : Below w13.heap.size w13 (w13.alloc (.cells #[.slice ea0 E.f0.length ek0, .slice ea1 E.f1.length ek1, .slice ea2 E.f2.length ek2, .slice ea3 E.f3.length ek3, .int .i64 E.f4] 55)) := (Below.refl _ _).alloc (Nat.le_refl _) _
        replace RE := hid (RE.out.below b)
        replace B : Hid (Below w.heap.size w (w13.alloc (.cells #[.slice ea0 E.f0.length ek0, .slice ea1 E.f1.length ek1, .slice ea2 E.f2.length ek2, .slice ea3 E.f3.length ek3, .int .i64 E.f4] 55))) := B.out.trans (b.mono B.out.size)
        have KE := hid (boxL_new w13 [.slice ea0 E.f0.length ek0, .slice ea1 E.f1.length ek1, .slice ea2 E.f2.length ek2, .slice ea3 E.f3.length ek3, .int .i64 E.f4] 55)
        clear b
        obtain ⟨po, hpo⟩ : ∃ po, putOk E qn sn = po := ⟨_, rfl⟩
        obtain ⟨P, hP⟩ : ∃ P, putX E qn sn = P := ⟨_, rfl⟩
        have HPO := hid hpo; have HP := hid hP
        clear hpo hP
        obtain ⟨q00, q01, q02, q03, q04⟩ := KE.out.five
        go_wp2_with fail
        refine (iput_tells _ E qn sn _ RE.out).mono ?_
        rintro e w14 ⟨x, rfl, hx, b⟩
        rw [HPO.out]
        rw [HP.out] at hx
        obtain ⟨ma0, mk0, ma1, mk1, ma2, mk2, ma3, mk3, rfl, _, _, _, _⟩ := tu_form hx
        have RM := hid hx
        clear hx
        clear q00 q01 q02 q03 q04
        replace KE := hid (KE.out.below b KE.out.lt)
        replace RE := hid (RE.out.below b)
        replace B : Hid (Below w.heap.size w w14) := B.out.trans (b.mono B.out.size)
        clear b
        have b : Below w14.heap.size w14 (w14.alloc (.cells #[.slice ma0 P.f0.length mk0, .slice ma1 P.f1.length mk1, .slice ma2 P.f2.length mk2, .slice ma3 P.f3.length mk3, .int .i64 P.f4] 55)) := (Below.refl _ _).alloc (Nat.le_refl _) _
        replace KE := hid (KE.out.below b KE.out.lt)
        replace RE := hid (RE.out.below b)
        replace RM := hid (RM.out.below b)
        replace B : Hid (Below w.heap.size w (w14.alloc (.cells #[.slice ma0 P.f0.length mk0, .slice ma1 P.f1.length mk1, .slice ma2 P.f2.length mk2, .slice ma3 P.f3.length mk3, .int .i64 P.f4] 55))) := B.out.trans (b.mono B.out.size)
        have KM := hid (boxL_new w14 [.slice ma0 P.f0.length mk0, .slice ma1 P.f1.length mk1, .slice ma2 P.f2.length mk2, .slice ma3 P.f3.length mk3, .int .i64 P.f4] 55)
        clear b
        obtain ⟨q00, q01, q02, q03, q04⟩ := KE.out.five
        obtain ⟨q10, q11, q12, q13, q14⟩ := KM.out.five
        go_wp2_with fail
        refine (sput_tells _ E qn sn _ RE.out).mono ?_
        rintro e w15 ⟨x, rfl, hx, b⟩
        rw [HPO.out]
        rw [HP.out] at hx
        obtain ⟨na0, nk0, na1, nk1, na2, nk2, na3, nk3, rfl, _, _, _, _⟩ := tu_form hx
        have RN := hid hx
        clear hx
        clear q00 q01 q02 q03 q04 q10 q11 q12 q13 q14
        replace KE := hid (KE.out.below b KE.out.lt)
        replace KM := hid (KM.out.below b KM.out.lt)
        replace RE := hid (RE.out.below b)
        replace RM := hid (RM.out.below b)
        replace B : Hid (Below w.heap.size w w15) := B.out.trans (b.mono B.out.size)
        clear b
        have b : Below w15.heap.size w15 (w15.alloc (.cells #[.slice na0 P.f0.length nk0, .slice na1 P.f1.length nk1, .slice na2 P.f2.length nk2, .slice na3 P.f3.length nk3, .int .i64 P.f4] 55)) := (Below.refl _ _).alloc (Nat.le_refl _) _
        replace KE := hid (KE.out.below b KE.out.lt)
        replace KM := hid (KM.out.below b KM.out.lt)
        replace RE := hid (RE.out.below b)
        replace RM := hid (RM.out.below b)
        replace RN := hid (RN.out.below b)
        replace B : Hid (Below w.heap.size w (w15.alloc (.cells #[.slice na0 P.f0.length nk0, .slice na1 P.f1.length nk1, .slice na2 P.f2.length nk2, .slice na3 P.f3.length nk3, .int .i64 P.f4] 55))) := B.out.trans (b.mono B.out.size)
        have KN := hid (boxL_new w15 [.slice na0 P.f0.length nk0, .slice na1 P.f1.length nk1, .slice na2 P.f2.length nk2, .slice na3 P.f3.length nk3, .int .i64 P.f4] 55)
        clear b
        clear KE RE
        obtain ⟨q00, q01, q02, q03, q04⟩ := KM.out.five
        obtain ⟨q10, q11, q12, q13, q14⟩ := KN.out.five
        go_wp2_with fail
        refine (HDW.out _ _ (code_after8c HC1.out B.out)).mono ?_
        rintro e w16 ⟨v, rfl, xs, hv, b⟩
        obtain ⟨va, vk, rfl, _, _⟩ := id hv
        have RV := hid hv
        clear hv
        clear q00 q01 q02 q03 q04 q10 q11 q12 q13 q14
        replace KM := hid (KM.out.below b KM.out.lt)
        replace KN := hid (KN.out.below b KN.out.lt)
        replace RM := hid (RM.out.below b)
        replace RN := hid (RN.out.below b)
        replace B : Hid (Below w.heap.size w w16) := B.out.trans (b.mono B.out.size)
        clear b
        obtain ⟨no, hno⟩ : ∃ no, newOk xs = no := ⟨_, rfl⟩
        obtain ⟨Q, hQ⟩ : ∃ Q, newX xs = Q := ⟨_, rfl⟩
        have HNO := hid hno; have HQ := hid hQ
        clear hno hQ
        obtain ⟨q00, q01, q02, q03, q04⟩ := KM.out.five
        obtain ⟨q10, q11, q12, q13, q14⟩ := KN.out.five
        go_wp2_with fail
        refine (inew_tells _ xs _ RV.out).mono ?_
        rintro e w17 ⟨x, rfl, hx, b⟩
        rw [HNO.out]
        rw [HQ.out] at hx
        obtain ⟨ca0, ck0, ca1, ck1, ca2, ck2, ca3, ck3, rfl, _, _, _, _⟩ := tu_form hx
        have RC := hid hx
        clear hx
        clear q00 q01 q02 q03 q04 q10 q11 q12 q13 q14
        replace KM := hid (KM.out.below b KM.out.lt)
        replace KN := hid (KN.out.below b KN.out.lt)
        replace RM := hid (RM.out.below b)
        replace RN := hid (RN.out.below b)
        replace RV := hid (RV.out.below b)
        replace B : Hid (Below w.heap.size w w17) := B.out.trans (b.mono B.out.size)
        clear b
        have b : Below w17.heap.size w17 (w17.alloc (.cells #[.slice ca0 Q.f0.length ck0, .slice ca1 Q.f1.length ck1, .slice ca2 Q.f2.length ck2, .slice ca3 Q.f3.length ck3, .int .i64 Q.f4] 55)) := (Below.refl _ _).alloc (Nat.le_refl _) _
        replace KM := hid (KM.out.below b KM.out.lt)
        replace KN := hid (KN.out.below b KN.out.lt)
        replace RM := hid (RM.out.below b)
        replace RN := hid (RN.out.below b)
        replace RV := hid (RV.out.below b)
        replace RC := hid (RC.out.below b)
        replace B : Hid (Below w.heap.size w (w17.alloc (.cells #[.slice ca0 Q.f0.length ck0, .slice ca1 Q.f1.length ck1, .slice ca2 Q.f2.length ck2, .slice ca3 Q.f3.length ck3, .int .i64 Q.f4] 55))) := B.out.trans (b.mono B.out.size)
        have KC := hid (boxL_new w17 [.slice ca0 Q.f0.length ck0, .slice ca1 Q.f1.length ck1, .slice ca2 Q.f2.length ck2, .slice ca3 Q.f3.length ck3, .int .i64 Q.f4] 55)
        clear b
        obtain ⟨q00, q01, q02, q03, q04⟩ := KM.out.five
        obtain ⟨q10, q11, q12, q13, q14⟩ := KN.out.five
        obtain ⟨q20, q21, q22, q23, q24⟩ := KC.out.five
        go_wp2_with fail
        refine (snew_tells _ xs _ RV.out).mono ?_
        rintro e w18 ⟨x, rfl, hx, b⟩
        rw [HNO.out]
        rw [HQ.out] at hx
        obtain ⟨da0, dk0, da1, dk1, da2, dk2, da3, dk3, rfl, _, _, _, _⟩ := tu_form hx
        have RD := hid hx
        clear hx
        clear q00 q01 q02 q03 q04 q10 q11 q12 q13 q14 q20 q21 q22 q23 q24
        replace KM := hid (KM.out.below b KM.out.lt)
        replace KN := hid (KN.out.below b KN.out.lt)
        replace KC := hid (KC.out.below b KC.out.lt)
        replace RM := hid (RM.out.below b)
        replace RN := hid (RN.out.below b)
        replace RV := hid (RV.out.below b)
        replace RC := hid (RC.out.below b)
        replace B : Hid (Below w.heap.size w w18) := B.out.trans (b.mono B.out.size)
        clear b
        have b : Below w18.heap.size w18 (w18.alloc (.cells #[.slice da0 Q.f0.length dk0, .slice da1 Q.f1.length dk1, .slice da2 Q.f2.length dk2, .slice da3 Q.f3.length dk3, .int .i64 Q.f4] 55)) := (Below.refl _ _).alloc (Nat.le_refl _) _
        replace KM := hid (KM.out.below b KM.out.lt)
        replace KN := hid (KN.out.below b KN.out.lt)
        replace KC := hid (KC.out.below b KC.out.lt)
        replace RM := hid (RM.out.below b)
        replace RN := hid (RN.out.below b)
        replace RV := hid (RV.out.below b)
        replace RC := hid (RC.out.below b)
        replace RD := hid (RD.out.below b)
        replace B : Hid (Below w.heap.size w (w18.alloc (.cells #[.slice da0 Q.f0.length dk0, .slice da1 Q.f1.length dk1, .slice da2 Q.f2.length dk2, .slice da3 Q.f3.length dk3, .int .i64 Q.f4] 55))) := B.out.trans (b.mono B.out.size)
        have KD := hid (boxL_new w18 [.slice da0 Q.f0.length dk0, .slice da1 Q.f1.length dk1, .slice da2 Q.f2.length dk2, .slice da3 Q.f3.length dk3, .int .i64 Q.f4] 55)
        clear b
        have n1 : (po == po) = true := by cases po <;> rfl
        have n2 : (no == no) = true := by cases no <;> rfl
        obtain ⟨q00, q01, q02, q03, q04⟩ := KM.out.five
        obtain ⟨q10, q11, q12, q13, q14⟩ := KN.out.five
        obtain ⟨q20, q21, q22, q23, q24⟩ := KC.out.five
        obtain ⟨q30, q31, q32, q33, q34⟩ := KD.out.five
        go_wp2_with fail
        refine (sameTurns_same _ _ P _ RM.out RN.out).mono ?_
        rintro e w19 ⟨rfl, b⟩
        clear q00 q01 q02 q03 q04 q10 q11 q12 q13 q14 q20 q21 q22 q23 q24 q30 q31 q32 q33 q34
        replace KM := hid (KM.out.below b KM.out.lt)
        replace KN := hid (KN.out.below b KN.out.lt)
        replace KC := hid (KC.out.below b KC.out.lt)
        replace KD := hid (KD.out.below b KD.out.lt)
        replace RM := hid (RM.out.below b)
        replace RN := hid (RN.out.below b)
        replace RV := hid (RV.out.below b)
        replace RC := hid (RC.out.below b)
        replace RD := hid (RD.out.below b)
        replace B : Hid (Below w.heap.size w w19) := B.out.trans (b.mono B.out.size)
        clear b
        obtain ⟨q00, q01, q02, q03, q04⟩ := KM.out.five
        obtain ⟨q10, q11, q12, q13, q14⟩ := KN.out.five
        obtain ⟨q20, q21, q22, q23, q24⟩ := KC.out.five
        obtain ⟨q30, q31, q32, q33, q34⟩ := KD.out.five
        go_wp2_with fail
        refine (sameTurns_same _ _ Q _ RC.out RD.out).mono ?_
        rintro e w20 ⟨rfl, b⟩
        clear q00 q01 q02 q03 q04 q10 q11 q12 q13 q14 q20 q21 q22 q23 q24 q30 q31 q32 q33 q34
        replace KM := hid (KM.out.below b KM.out.lt)
        replace KN := hid (KN.out.below b KN.out.lt)
        replace KC := hid (KC.out.below b KC.out.lt)
        replace KD := hid (KD.out.below b KD.out.lt)
        replace RM := hid (RM.out.below b)
        replace RN := hid (RN.out.below b)
        replace RV := hid (RV.out.below b)
        replace RC := hid (RC.out.below b)
        replace RD := hid (RD.out.below b)
        replace B : Hid (Below w.heap.size w w20) := B.out.trans (b.mono B.out.size)
        clear b
        cases po
        case false =>
          obtain ⟨q00, q01, q02, q03, q04⟩ := KM.out.five
          obtain ⟨q10, q11, q12, q13, q14⟩ := KN.out.five
          obtain ⟨q20, q21, q22, q23, q24⟩ := KC.out.five
          obtain ⟨q30, q31, q32, q33, q34⟩ := KD.out.five
          go_wp2
          go_ret
          exact ⟨rfl, B.out⟩
        have HGP : Hid (goodTu P = true) := by rw [← HP.out]; exact put_good HPO.out
        obtain ⟨q00, q01, q02, q03, q04⟩ := KM.out.five
        obtain ⟨q10, q11, q12, q13, q14⟩ := KN.out.five
        obtain ⟨q20, q21, q22, q23, q24⟩ := KC.out.five
        obtain ⟨q30, q31, q32, q33, q34⟩ := KD.out.five
        go_wp2_with fail
        refine (igoodT_eq _ P true HGP.out _ RM.out).mono ?_
        rintro e w21 ⟨rfl, b⟩
        clear q00 q01 q02 q03 q04 q10 q11 q12 q13 q14 q20 q21 q22 q23 q24 q30 q31 q32 q33 q34
        replace KM := hid (KM.out.below b KM.out.lt)
        replace KN := hid (KN.out.below b KN.out.lt)
        replace KC := hid (KC.out.below b KC.out.lt)
        replace KD := hid (KD.out.below b KD.out.lt)
        replace RM := hid (RM.out.below b)
        replace RN := hid (RN.out.below b)
        replace RV := hid (RV.out.below b)
        replace RC := hid (RC.out.below b)
        replace RD := hid (RD.out.below b)
        replace B : Hid (Below w.heap.size w w21) := B.out.trans (b.mono B.out.size)
        clear b
        go_wp2
        go_ret
        exact ⟨rfl, B.out⟩
  have HL0 := hid hl0
  clear hl0
  have hq0 : q ≠ [] := fun h => HL0.out (by have e := HAPP.out; rw [h] at e; exact (List.append_eq_nil_iff.1 e).2)
  obtain ⟨gq, oq, rfl⟩ : ∃ b off, aq = some ⟨b, off, none⟩ := by
    obtain ⟨_, _, ex, _, hx⟩ := RQV.out
    cases ex
    rcases hx with hx | ⟨b, off, h, _⟩
    · exact absurd hx hq0
    · exact ⟨b, off, h⟩
  have hcap : ¬ ps.length = kq := by
    have h1 := hq1.2
    have h2 := HLEN.out
    have h3 : l.length ≠ 0 := fun h => HL0.out (List.eq_nil_of_length_eq_zero h)
    omega
  have hcap2 : ¬ (kq : Int) = (ps.length : Int) := by omega
  have hcap3 : ¬ kq = ps.length := fun h => hcap h.symm
  have HRL := hid (krest hqa)
  clear hqa hq0
  as_aux_lemma =>
    have HSI : Hid (∀ v u wq, ((v = .slice xp ps.length xq ∧ u = .slice (some ⟨gq, oq, none⟩) ps.length kq) ∨ (v = .slice al l.length kl ∧ u = .slice (some ⟨gq, oq + ps.length, none⟩) l.length (kq - ps.length))) → Below w12.heap.size w12 wq → Calls Try.prog 13 #[v, u] wq fun e w' => e = .returned (.bool true) ∧ Below wq.heap.size wq w') := fun v u wq hv hq => by
      rcases hv with ⟨rfl, rfl⟩ | ⟨rfl, rfl⟩
      · exact (sameK_same _ _ ps wq (RP.out.below hq) (HPQ.out.below hq)).mono fun _ _ ⟨he, hm⟩ => ⟨he, sameK_below hm⟩
      · exact (sameK_same _ _ l wq (RLV.out.below hq) (HRL.out.below hq)).mono fun _ _ ⟨he, hm⟩ => ⟨he, sameK_below hm⟩
    have HSO : Hid (∀ wq, Below w12.heap.size w12 wq → Calls Try.prog 14 #[.slice xp ps.length xq] wq fun e w' => e = .returned (.int .i64 sm) ∧ w' = wq) := fun wq hq => by
      have h := sumOf_any _ ps wq (RP.out.below hq) (by have := TT.out.small.1; omega) HFL.out
      rw [show psum (fl ps) ps.length = sm from HSM.out] at h
      exact h
    have HGO : Hid (∀ wq, Below w12.heap.size w12 wq → Calls Try.prog 41 #[.agg #[.slice xa0 X.f0.length xk0, .slice (some ⟨h1, p1, none⟩) X.f1.length xk1, .slice (some ⟨h2, p2, none⟩) X.f2.length xk2, .slice xa3 X.f3.length xk3, .int .i64 X.f4]] wq fun e w' => e = .returned (.bool true) ∧ Below wq.heap.size wq w') := fun wq hq => igoodT_eq _ X true TT.out.gx wq (RX.out.below hq)
    have qX : Below w12.heap.size w12 w12.drew := (Below.refl _ _).drew
    go_wp2_with fail
    go_region_held3 (fun w' => w'.cell? ⟨w2.heap.size, 0, none⟩ = some (.slice xa0 X.f0.length xk0) ∧ w'.cell? ⟨w2.heap.size, 1, none⟩ = some (.slice (some ⟨h1, p1, none⟩) X.f1.length xk1) ∧ w'.cell? ⟨w2.heap.size, 2, none⟩ = some (.slice (some ⟨h2, p2, none⟩) X.f2.length xk2) ∧ w'.cell? ⟨w2.heap.size, 3, none⟩ = some (.slice xa3 X.f3.length xk3) ∧ w'.cell? ⟨w2.heap.size, 4, none⟩ = some (.int .i64 X.f4) ∧ w'.cell? ⟨w1.heap.size, 4, none⟩ = some (.int .i64 (k : Int)) ∧ w'.cell? ⟨h1, p1 + k, none⟩ = some (.slice al l.length kl) ∧ Below w12.heap.size w12 w') (first | (refine ⟨?_, ?_, ?_, ?_, ?_, ?_, ?_, ?_⟩ <;> assumption) | exact ⟨s0, s1, s2, s3, s4, r4, e2, qX⟩)
      (first | (go_at_call 41; refine (HGO.out _ (show Below w12.heap.size w12 _ by first | assumption | exact (by assumption : _ ∧ _ ∧ _ ∧ _ ∧ _ ∧ _ ∧ _ ∧ Below w12.heap.size w12 _).2.2.2.2.2.2.2)).mono ?_; rintro e wt ⟨rfl, b⟩; have qX := Below.trans (show Below w12.heap.size w12 _ by first | assumption | exact (by assumption : _ ∧ _ ∧ _ ∧ _ ∧ _ ∧ _ ∧ _ ∧ Below w12.heap.size w12 _).2.2.2.2.2.2.2) (b.mono (Below.size (show Below w12.heap.size w12 _ by first | assumption | exact (by assumption : _ ∧ _ ∧ _ ∧ _ ∧ _ ∧ _ ∧ _ ∧ Below w12.heap.size w12 _).2.2.2.2.2.2.2))); obtain ⟨s0, s1, s2, s3, s4⟩ := (KX.out.below qX KX.out.lt).five; have r4 := (KT.out.below qX KT.out.lt).five.2.2.2.2; have e2 := (World.cell?_of_block (a := ⟨h1, p1 + k, none⟩) (qX.block h1 (lt_of_cell HE2.out))).trans HE2.out) | (go_at_call 14; refine (HSO.out _ (show Below w12.heap.size w12 _ by first | assumption | exact (by assumption : _ ∧ _ ∧ _ ∧ _ ∧ _ ∧ _ ∧ _ ∧ Below w12.heap.size w12 _).2.2.2.2.2.2.2)).mono ?_; rintro e w' ⟨rfl, hw⟩; obtain rfl := hw.symm) | (go_at_call 13; refine (HSI.out _ _ _ (by first | exact .inl ⟨rfl, rfl⟩ | exact .inr ⟨rfl, rfl⟩) (show Below w12.heap.size w12 _ by first | assumption | exact (by assumption : _ ∧ _ ∧ _ ∧ _ ∧ _ ∧ _ ∧ _ ∧ Below w12.heap.size w12 _).2.2.2.2.2.2.2)).mono ?_; rintro e wt ⟨rfl, b⟩; have qX := Below.trans (show Below w12.heap.size w12 _ by first | assumption | exact (by assumption : _ ∧ _ ∧ _ ∧ _ ∧ _ ∧ _ ∧ _ ∧ Below w12.heap.size w12 _).2.2.2.2.2.2.2) (b.mono (Below.size (show Below w12.heap.size w12 _ by first | assumption | exact (by assumption : _ ∧ _ ∧ _ ∧ _ ∧ _ ∧ _ ∧ _ ∧ Below w12.heap.size w12 _).2.2.2.2.2.2.2))); obtain ⟨s0, s1, s2, s3, s4⟩ := (KX.out.below qX KX.out.lt).five; have r4 := (KT.out.below qX KT.out.lt).five.2.2.2.2; have e2 := (World.cell?_of_block (a := ⟨h1, p1 + k, none⟩) (qX.block h1 (lt_of_cell HE2.out))).trans HE2.out))
    replace B : Hid (Below w.heap.size w wt) := B.out.trans (qX.mono B.out.size)
    have HQX := hid qX
    clear s0 s1 s3 s4 e2 r4 s2
    have hl1 : 0 < l.length := by have h0 := HL0.out; cases l with | nil => exact absurd rfl h0 | cons a b => simp
    obtain ⟨c1, c2, c3⟩ := TT.out.cred (by omega)
    obtain ⟨⟨u1, u2⟩, ⟨u3, u4⟩, u5, u6⟩ := TT.out.cb
    have u7 := HTB.out
    rw [HSM.out] at c1
    obtain ⟨r0, _, r2, _, r4⟩ := (KT.out.below HQX.out KT.out.lt).five
    obtain ⟨_, _, s2, _, _⟩ := (KX.out.below HQX.out KX.out.lt).five
    have e3 := (World.cell?_of_block (a := ⟨g0, o0 + k, none⟩) (HQX.out.block g0 (lt_of_cell HE3.out))).trans HE3.out
    have e4 := (World.cell?_of_block (a := ⟨g2, o2 + k, none⟩) (HQX.out.block g2 (lt_of_cell HE4.out))).trans HE4.out
    have e5 := (World.cell?_of_block (a := ⟨h2, p2 + k, none⟩) (HQX.out.block h2 (lt_of_cell HE5.out))).trans HE5.out
    obtain ⟨g6, o6, ex, e6⟩ := kcell_at (HRL.out.below HQX.out) hl1
    cases ex
    rw [Nat.add_zero] at e6
    generalize fl D.f0 k = vq at *
    generalize fl D.f2 k = vc at *
    generalize fl X.f2 k = vx at *
    generalize fl l 0 = vl at *
    obtain ⟨vs, hvs⟩ : ∃ x, vc + vq = x := ⟨_, rfl⟩
    have d5 : IntKind.i64.wrap (vc + vq) = vs := by rw [IntKind.wrap_i64]; omega
    have d6 : IntKind.i64.wrap (sm + vx) = vs := by rw [IntKind.wrap_i64]; omega
    have d7 : (vs != vs) = false := by simp
    have d8 : decide (vl ≤ vx) = false := by simp; omega
    have d9 : ((ps.length : Int) == 0) = false := by rw [beq_eq_false_iff_ne]; omega
    have d10 : ¬ ((ps.length : Int) = 0) := by omega
    have d11 : ¬ (ps.length = 0) := by omega
    have d11b : ¬ (ps = []) := fun h => c3 (by rw [h]; rfl)
    have hz : ps.length < q.length := by have := HLEN.out; omega
    have d1 : decide ((ps.length : Int) < (q.length : Int)) = true := by simp; omega
    have d2 : decide (ps.length < q.length) = true := by simp; omega
    have d4 : ((ps.length : Int) < (q.length : Int)) := by omega
    have hq2 : ∀ n, Below w12.heap.size w12 (wt.drewN n) := fun n => ⟨HQX.out.os, HQX.out.tape, HQX.out.output, HQX.out.size, HQX.out.block⟩
    have HQ2 := hid hq2
    clear hq2 c1 c2 u1 u2 u3 u4 u5 u6 u7 hvs
    go_wp2_with fail
    go_quiet ((go_at_call 14; refine Calls.quiet_of_same (HSO.out _ (HQ2.out _))))
    clear d1 d2 d4 d5 d6 d7 d8 d9 d10 d11 d11b r0 r2 r4 s2 e3 e4 e5 e6
    have B' : Hid (Below w.heap.size w (wt.drewN nq)) := ⟨B.out.os, B.out.tape, B.out.output, B.out.size, B.out.block⟩
    replace B := B'
    clear B'
    as_aux_lemma =>
      go_wp2_with fail
      refine (HDP.out _ _ (code_after8c HC1.out B.out)).mono ?_
      rintro e w13 ⟨u, qn, sn, rfl, E, hr, b⟩
      obtain ⟨ea0, ek0, ea1, ek1, ea2, ek2, ea3, ek3, rfl, _, _, _, _⟩ := tu_form hr
      replace B : Hid (Below w.heap.size w w13) := B.out.trans (b.mono B.out.size)
      have RE := hid hr
      clear b hr   
      have b : Below w13.heap.size w13 (w13.alloc (.cells #[.slice ea0 E.f0.length ek0, .slice ea1 E.f1.length ek1, .slice ea2 E.f2.length ek2, .slice ea3 E.f3.length ek3, .int .i64 E.f4] 55)) := (Below.refl _ _).alloc (Nat.le_refl _) _
      replace RE := hid (RE.out.below b)
      replace B : Hid (Below w.heap.size w (w13.alloc (.cells #[.slice ea0 E.f0.length ek0, .slice ea1 E.f1.length ek1, .slice ea2 E.f2.length ek2, .slice ea3 E.f3.length ek3, .int .i64 E.f4] 55))) := B.out.trans (b.mono B.out.size)
      have KE := hid (boxL_new w13 [.slice ea0 E.f0.length ek0, .slice ea1 E.f1.length ek1, .slice ea2 E.f2.length ek2, .slice ea3 E.f3.length ek3, .int .i64 E.f4] 55)
      clear b
      obtain ⟨po, hpo⟩ : ∃ po, putOk E qn sn = po := ⟨_, rfl⟩
      obtain ⟨P, hP⟩ : ∃ P, putX E qn sn = P := ⟨_, rfl⟩
      have HPO := hid hpo; have HP := hid hP
      clear hpo hP
      obtain ⟨q00, q01, q02, q03, q04⟩ := KE.out.five
      go_wp2_with fail
      refine (iput_tells _ E qn sn _ RE.out).mono ?_
      rintro e w14 ⟨x, rfl, hx, b⟩
      rw [HPO.out]
      rw [HP.out] at hx
      obtain ⟨ma0, mk0, ma1, mk1, ma2, mk2, ma3, mk3, rfl, _, _, _, _⟩ := tu_form hx
      have RM := hid hx
      clear hx
      clear q00 q01 q02 q03 q04
      replace KE := hid (KE.out.below b KE.out.lt)
      replace RE := hid (RE.out.below b)
      replace B : Hid (Below w.heap.size w w14) := B.out.trans (b.mono B.out.size)
      clear b
      have b : Below w14.heap.size w14 (w14.alloc (.cells #[.slice ma0 P.f0.length mk0, .slice ma1 P.f1.length mk1, .slice ma2 P.f2.length mk2, .slice ma3 P.f3.length mk3, .int .i64 P.f4] 55)) := (Below.refl _ _).alloc (Nat.le_refl _) _
      replace KE := hid (KE.out.below b KE.out.lt)
      replace RE := hid (RE.out.below b)
      replace RM := hid (RM.out.below b)
      replace B : Hid (Below w.heap.size w (w14.alloc (.cells #[.slice ma0 P.f0.length mk0, .slice ma1 P.f1.length mk1, .slice ma2 P.f2.length mk2, .slice ma3 P.f3.length mk3, .int .i64 P.f4] 55))) := B.out.trans (b.mono B.out.size)
      have KM := hid (boxL_new w14 [.slice ma0 P.f0.length mk0, .slice ma1 P.f1.length mk1, .slice ma2 P.f2.length mk2, .slice ma3 P.f3.length mk3, .int .i64 P.f4] 55)
      clear b
      obtain ⟨q00, q01, q02, q03, q04⟩ := KE.out.five
      obtain ⟨q10, q11, q12, q13, q14⟩ := KM.out.five
      go_wp2_with fail
      refine (sput_tells _ E qn sn _ RE.out).mono ?_
      rintro e w15 ⟨x, rfl, hx, b⟩
      rw [HPO.out]
      rw [HP.out] at hx
      obtain ⟨na0, nk0, na1, nk1, na2, nk2, na3, nk3, rfl, _, _, _, _⟩ := tu_form hx
      have RN := hid hx
      clear hx
      clear q00 q01 q02 q03 q04 q10 q11 q12 q13 q14
      replace KE := hid (KE.out.below b KE.out.lt)
      replace KM := hid (KM.out.below b KM.out.lt)
      replace RE := hid (RE.out.below b)
      replace RM := hid (RM.out.below b)
      replace B : Hid (Below w.heap.size w w15) := B.out.trans (b.mono B.out.size)
      clear b
      have b : Below w15.heap.size w15 (w15.alloc (.cells #[.slice na0 P.f0.length nk0, .slice na1 P.f1.length nk1, .slice na2 P.f2.length nk2, .slice na3 P.f3.length nk3, .int .i64 P.f4] 55)) := (Below.refl _ _).alloc (Nat.le_refl _) _
      replace KE := hid (KE.out.below b KE.out.lt)
      replace KM := hid (KM.out.below b KM.out.lt)
      replace RE := hid (RE.out.below b)
      replace RM := hid (RM.out.below b)
      replace RN := hid (RN.out.below b)
      replace B : Hid (Below w.heap.size w (w15.alloc (.cells #[.slice na0 P.f0.length nk0, .slice na1 P.f1.length nk1, .slice na2 P.f2.length nk2, .slice na3 P.f3.length nk3, .int .i64 P.f4] 55))) := B.out.trans (b.mono B.out.size)
      have KN := hid (boxL_new w15 [.slice na0 P.f0.length nk0, .slice na1 P.f1.length nk1, .slice na2 P.f2.length nk2, .slice na3 P.f3.length nk3, .int .i64 P.f4] 55)
      clear b
      clear KE RE
      obtain ⟨q00, q01, q02, q03, q04⟩ := KM.out.five
      obtain ⟨q10, q11, q12, q13, q14⟩ := KN.out.five
      go_wp2_with fail
      refine (HDW.out _ _ (code_after8c HC1.out B.out)).mono ?_
      rintro e w16 ⟨v, rfl, xs, hv, b⟩
      obtain ⟨va, vk, rfl, _, _⟩ := id hv
      have RV := hid hv
      clear hv
      clear q00 q01 q02 q03 q04 q10 q11 q12 q13 q14
      replace KM := hid (KM.out.below b KM.out.lt)
      replace KN := hid (KN.out.below b KN.out.lt)
      replace RM := hid (RM.out.below b)
      replace RN := hid (RN.out.below b)
      replace B : Hid (Below w.heap.size w w16) := B.out.trans (b.mono B.out.size)
      clear b
      obtain ⟨no, hno⟩ : ∃ no, newOk xs = no := ⟨_, rfl⟩
      obtain ⟨Q, hQ⟩ : ∃ Q, newX xs = Q := ⟨_, rfl⟩
      have HNO := hid hno; have HQ := hid hQ
      clear hno hQ
      obtain ⟨q00, q01, q02, q03, q04⟩ := KM.out.five
      obtain ⟨q10, q11, q12, q13, q14⟩ := KN.out.five
      go_wp2_with fail
      refine (inew_tells _ xs _ RV.out).mono ?_
      rintro e w17 ⟨x, rfl, hx, b⟩
      rw [HNO.out]
      rw [HQ.out] at hx
      obtain ⟨ca0, ck0, ca1, ck1, ca2, ck2, ca3, ck3, rfl, _, _, _, _⟩ := tu_form hx
      have RC := hid hx
      clear hx
      clear q00 q01 q02 q03 q04 q10 q11 q12 q13 q14
      replace KM := hid (KM.out.below b KM.out.lt)
      replace KN := hid (KN.out.below b KN.out.lt)
      replace RM := hid (RM.out.below b)
      replace RN := hid (RN.out.below b)
      replace RV := hid (RV.out.below b)
      replace B : Hid (Below w.heap.size w w17) := B.out.trans (b.mono B.out.size)
      clear b
      have b : Below w17.heap.size w17 (w17.alloc (.cells #[.slice ca0 Q.f0.length ck0, .slice ca1 Q.f1.length ck1, .slice ca2 Q.f2.length ck2, .slice ca3 Q.f3.length ck3, .int .i64 Q.f4] 55)) := (Below.refl _ _).alloc (Nat.le_refl _) _
      replace KM := hid (KM.out.below b KM.out.lt)
      replace KN := hid (KN.out.below b KN.out.lt)
      replace RM := hid (RM.out.below b)
      replace RN := hid (RN.out.below b)
      replace RV := hid (RV.out.below b)
      replace RC := hid (RC.out.below b)
      replace B : Hid (Below w.heap.size w (w17.alloc (.cells #[.slice ca0 Q.f0.length ck0, .slice ca1 Q.f1.length ck1, .slice ca2 Q.f2.length ck2, .slice ca3 Q.f3.length ck3, .int .i64 Q.f4] 55))) := B.out.trans (b.mono B.out.size)
      have KC := hid (boxL_new w17 [.slice ca0 Q.f0.length ck0, .slice ca1 Q.f1.length ck1, .slice ca2 Q.f2.length ck2, .slice ca3 Q.f3.length ck3, .int .i64 Q.f4] 55)
      clear b
      obtain ⟨q00, q01, q02, q03, q04⟩ := KM.out.five
      obtain ⟨q10, q11, q12, q13, q14⟩ := KN.out.five
      obtain ⟨q20, q21, q22, q23, q24⟩ := KC.out.five
      go_wp2_with fail
      refine (snew_tells _ xs _ RV.out).mono ?_
      rintro e w18 ⟨x, rfl, hx, b⟩
      rw [HNO.out]
      rw [HQ.out] at hx
      obtain ⟨da0, dk0, da1, dk1, da2, dk2, da3, dk3, rfl, _, _, _, _⟩ := tu_form hx
      have RD := hid hx
      clear hx
      clear q00 q01 q02 q03 q04 q10 q11 q12 q13 q14 q20 q21 q22 q23 q24
      replace KM := hid (KM.out.below b KM.out.lt)
      replace KN := hid (KN.out.below b KN.out.lt)
      replace KC := hid (KC.out.below b KC.out.lt)
      replace RM := hid (RM.out.below b)
      replace RN := hid (RN.out.below b)
      replace RV := hid (RV.out.below b)
      replace RC := hid (RC.out.below b)
      replace B : Hid (Below w.heap.size w w18) := B.out.trans (b.mono B.out.size)
      clear b
      have b : Below w18.heap.size w18 (w18.alloc (.cells #[.slice da0 Q.f0.length dk0, .slice da1 Q.f1.length dk1, .slice da2 Q.f2.length dk2, .slice da3 Q.f3.length dk3, .int .i64 Q.f4] 55)) := (Below.refl _ _).alloc (Nat.le_refl _) _
      replace KM := hid (KM.out.below b KM.out.lt)
      replace KN := hid (KN.out.below b KN.out.lt)
      replace KC := hid (KC.out.below b KC.out.lt)
      replace RM := hid (RM.out.below b)
      replace RN := hid (RN.out.below b)
      replace RV := hid (RV.out.below b)
      replace RC := hid (RC.out.below b)
      replace RD := hid (RD.out.below b)
      replace B : Hid (Below w.heap.size w (w18.alloc (.cells #[.slice da0 Q.f0.length dk0, .slice da1 Q.f1.length dk1, .slice da2 Q.f2.length dk2, .slice da3 Q.f3.length dk3, .int .i64 Q.f4] 55))) := B.out.trans (b.mono B.out.size)
      have KD := hid (boxL_new w18 [.slice da0 Q.f0.length dk0, .slice da1 Q.f1.length dk1, .slice da2 Q.f2.length dk2, .slice da3 Q.f3.length dk3, .int .i64 Q.f4] 55)
      clear b
      have n1 : (po == po) = true := by cases po <;> rfl
      have n2 : (no == no) = true := by cases no <;> rfl
      obtain ⟨q00, q01, q02, q03, q04⟩ := KM.out.five
      obtain ⟨q10, q11, q12, q13, q14⟩ := KN.out.five
      obtain ⟨q20, q21, q22, q23, q24⟩ := KC.out.five
      obtain ⟨q30, q31, q32, q33, q34⟩ := KD.out.five
      go_wp2_with fail
      refine (sameTurns_same _ _ P _ RM.out RN.out).mono ?_
      rintro e w19 ⟨rfl, b⟩
      clear q00 q01 q02 q03 q04 q10 q11 q12 q13 q14 q20 q21 q22 q23 q24 q30 q31 q32 q33 q34
      replace KM := hid (KM.out.below b KM.out.lt)
      replace KN := hid (KN.out.below b KN.out.lt)
      replace KC := hid (KC.out.below b KC.out.lt)
      replace KD := hid (KD.out.below b KD.out.lt)
      replace RM := hid (RM.out.below b)
      replace RN := hid (RN.out.below b)
      replace RV := hid (RV.out.below b)
      replace RC := hid (RC.out.below b)
      replace RD := hid (RD.out.below b)
      replace B : Hid (Below w.heap.size w w19) := B.out.trans (b.mono B.out.size)
      clear b
      obtain ⟨q00, q01, q02, q03, q04⟩ := KM.out.five
      obtain ⟨q10, q11, q12, q13, q14⟩ := KN.out.five
      obtain ⟨q20, q21, q22, q23, q24⟩ := KC.out.five
      obtain ⟨q30, q31, q32, q33, q34⟩ := KD.out.five
      go_wp2_with fail
      refine (sameTurns_same _ _ Q _ RC.out RD.out).mono ?_
      rintro e w20 ⟨rfl, b⟩
      clear q00 q01 q02 q03 q04 q10 q11 q12 q13 q14 q20 q21 q22 q23 q24 q30 q31 q32 q33 q34
      replace KM := hid (KM.out.below b KM.out.lt)
      replace KN := hid (KN.out.below b KN.out.lt)
      replace KC := hid (KC.out.below b KC.out.lt)
      replace KD := hid (KD.out.below b KD.out.lt)
      replace RM := hid (RM.out.below b)
      replace RN := hid (RN.out.below b)
      replace RV := hid (RV.out.below b)
      replace RC := hid (RC.out.below b)
      replace RD := hid (RD.out.below b)
      replace B : Hid (Below w.heap.size w w20) := B.out.trans (b.mono B.out.size)
      clear b
      cases po
      case false =>
        obtain ⟨q00, q01, q02, q03, q04⟩ := KM.out.five
        obtain ⟨q10, q11, q12, q13, q14⟩ := KN.out.five
        obtain ⟨q20, q21, q22, q23, q24⟩ := KC.out.five
        obtain ⟨q30, q31, q32, q33, q34⟩ := KD.out.five
        go_wp2
        go_ret
        exact ⟨rfl, B.out⟩
      have HGP : Hid (goodTu P = true) := by rw [← HP.out]; exact put_good HPO.out
      obtain ⟨q00, q01, q02, q03, q04⟩ := KM.out.five
      obtain ⟨q10, q11, q12, q13, q14⟩ := KN.out.five
      obtain ⟨q20, q21, q22, q23, q24⟩ := KC.out.five
      obtain ⟨q30, q31, q32, q33, q34⟩ := KD.out.five
      go_wp2_with fail
      refine (igoodT_eq _ P true HGP.out _ RM.out).mono ?_
      rintro e w21 ⟨rfl, b⟩
      clear q00 q01 q02 q03 q04 q10 q11 q12 q13 q14 q20 q21 q22 q23 q24 q30 q31 q32 q33 q34
      replace KM := hid (KM.out.below b KM.out.lt)
      replace KN := hid (KN.out.below b KN.out.lt)
      replace KC := hid (KC.out.below b KC.out.lt)
      replace KD := hid (KD.out.below b KD.out.lt)
      replace RM := hid (RM.out.below b)
      replace RN := hid (RN.out.below b)
      replace RV := hid (RV.out.below b)
      replace RC := hid (RC.out.below b)
      replace RD := hid (RD.out.below b)
      replace B : Hid (Below w.heap.size w w21) := B.out.trans (b.mono B.out.size)
      clear b
      go_wp2
      go_ret
      exact ⟨rfl, B.out⟩
end Go.Proofs.Ytepnhbicmlfnhac
