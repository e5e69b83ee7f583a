/-
  The law FnMoore answers true at all bytes, where impl's functions tell what they should.
-/
import Derived.Test.YtpkngcamaahhdabCon5
import Derived.Test.YtpkngcamaahhdabDrawLat
import Derived.Test.YtpkngcamaahhdabSameInts
import Derived.Test.YtpkngcamaahhdabCodeRow
import Derived.Test.YtpkngcamaahhdabSLateM
import Derived.Test.YtpkngcamaahhdabSMooreFn
import Derived.Test.YtpkngcamaahhdabSBest
namespace Go.Proofs.Ytpkngcamaahhdab
open Go.RowKit

theorem lateTU_all (xs : List TkEl) (o : List Nat) : lateTU xs o xs.length = lateT (needT xs) (endT xs) xs.length o := rfl
set_option maxRecDepth 100000 in
set_option maxHeartbeats 40000000 in
theorem FnMoore_law (a0 : Option Addr) (len0 cap0 : Nat) (z0 : List Int) (a1 : Option Addr) (len1 cap1 : Nat) (z1 : List Int) (w : World) (h0 : IsRow .u8 w a0 len0 cap0 z0) (h1 : IsRow .u8 w a1 len1 cap1 z1) (b0 : cap0 * 1 ≤ 140737488351232) (b1 : cap1 * 1 ≤ 140737488351232)
    (TG : GoodTells 25) (TL : NumTells 18 fun xs os => (lateTU xs os xs.length : Nat)) (TM : MooTells 20) (TB : OneTells 22 fun xs => (bestL xs : Nat)) :
    Calls Try.prog 4 #[.slice a0 len0 cap0, .slice a1 len1 cap1] w fun e w' => e = .returned (.bool true) ∧ Below w.heap.size w w' := by
  have l0 : len0 ≤ cap0 := by rcases h0 with ⟨_, rfl, rfl, _⟩ | ⟨x, _, h, _⟩ <;> omega
  have l1 : len1 ≤ cap1 := by rcases h1 with ⟨_, rfl, rfl, _⟩ | ⟨x, _, h, _⟩ <;> omega
  by_cases hbig : (1048576 : Int) < (len0 : Int) + (len1 : Int)
  · clear h0 h1
    go_enter Try.func4, Try.ntmps4
    go_wp2
    go_ret
    exact ⟨rfl, Below.refl _ _⟩
  have HC0 := hid (code_of_row h0 (by omega))
  have hge : (0 : Int) ≤ (len1 : Int) := by omega
  clear h0 h1
  go_enter Try.func4, Try.ntmps4
  go_wp2_with fail
  refine (drawLateMany_any _ _ HC0.out).mono ?_
  rintro e w1 ⟨v5, v6, rfl, xs, ys, hx, hy, o5, o6, b⟩
  have B := hid b
  have RT := hid o5.reads
  have RO := hid o6.reads
  have HY := hid hy
  clear b o5 o6 HC0 hy
  obtain ⟨ax, cx, rfl, _, _⟩ := RT.out
  have HTG := hid TG
  have HTL := hid TL
  have HTM := hid TM
  have HTB := hid TB
  clear TG TL TM TB
  by_cases hg : goodT xs = false
  · have HG := hid hg
    have HN : Hid ((goodT xs && ordB xs.length ys) = false) := by show _ = _; rw [hg]; rfl
    clear hg
    go_wp2_with fail
    refine (HTL.out.no _ _ xs ys _ RT.out RO.out HN.out).mono ?_
    rintro e w2 ⟨rfl, b⟩
    replace RT := hid (RT.out.below b)
    replace RO := hid (RO.out.below b)
    replace B : Hid (Below w.heap.size w w2) := B.out.trans (b.mono B.out.size)
    clear b
    go_wp2_with fail
    refine (slatem_no _ _ xs ys _ RT.out RO.out HN.out).mono ?_
    rintro e w3 ⟨rfl, b⟩
    replace RT := hid (RT.out.below b)
    replace RO := hid (RO.out.below b)
    replace B : Hid (Below w.heap.size w w3) := B.out.trans (b.mono B.out.size)
    clear b
    go_wp2_with fail
    refine (HTM.out.no _ xs _ RT.out HG.out).mono ?_
    rintro e w4 ⟨uRM, rfl, o, b⟩
    have RM := hid o.reads
    clear o
    replace RT := hid (RT.out.below b)
    replace RO := hid (RO.out.below b)
    replace B : Hid (Below w.heap.size w w4) := B.out.trans (b.mono B.out.size)
    clear b
    go_wp2_with fail
    refine (smoorefn_no _ xs _ RT.out HG.out).mono ?_
    rintro e w5 ⟨uRS, rfl, o, b⟩
    have RS := hid o.reads
    clear o
    replace RT := hid (RT.out.below b)
    replace RO := hid (RO.out.below b)
    replace RM := hid (RM.out.below b)
    replace B : Hid (Below w.heap.size w w5) := B.out.trans (b.mono B.out.size)
    clear b
    go_wp2_with fail
    refine (HTB.out.no _ xs _ RT.out HG.out).mono ?_
    rintro e w6 ⟨rfl, b⟩
    replace RT := hid (RT.out.below b)
    replace RO := hid (RO.out.below b)
    replace RM := hid (RM.out.below b)
    replace RS := hid (RS.out.below b)
    replace B : Hid (Below w.heap.size w w6) := B.out.trans (b.mono B.out.size)
    clear b
    go_wp2_with fail
    refine (sbest_no _ xs _ RT.out HG.out).mono ?_
    rintro e w7 ⟨rfl, b⟩
    replace RT := hid (RT.out.below b)
    replace RO := hid (RO.out.below b)
    replace RM := hid (RM.out.below b)
    replace RS := hid (RS.out.below b)
    replace B : Hid (Below w.heap.size w w7) := B.out.trans (b.mono B.out.size)
    clear b
    go_wp2_with fail
    refine (sameInts_same _ _ _ _ RM.out.r RS.out.r).mono ?_
    rintro e w8 ⟨rfl, b⟩
    replace RT := hid (RT.out.below b)
    replace RO := hid (RO.out.below b)
    replace RM := hid (RM.out.below b)
    replace B : Hid (Below w.heap.size w w8) := B.out.trans (b.mono B.out.size)
    clear b
    go_wp2_with fail
    refine (HTG.out _ xs false HG.out _ RT.out).mono ?_
    rintro e w9 ⟨rfl, b⟩
    replace RT := hid (RT.out.below b)
    replace B : Hid (Below w.heap.size w w9) := B.out.trans (b.mono B.out.size)
    clear b
    go_wp2
    go_ret
    exact ⟨by first | rfl | simp, B.out⟩
  · have HG : Hid (goodT xs = true) := by show _ = _; simpa using hg
    have hlen := goodT_len HG.out
    clear hg
    by_cases hord : ordB xs.length ys = false
    · have HN : Hid ((goodT xs && ordB xs.length ys) = false) := by show _ = _; rw [HG.out, Bool.true_and]; exact hord
      clear hord
      have HBE := hid (bestL_eq HG.out)
      have HLM := hid (mooreL_late HG.out)
      have HPM := hid (mooreL_perm HG.out)
      obtain ⟨A, hA⟩ : ∃ A, A = (mooreL xs).1.length := ⟨_, rfl⟩
      obtain ⟨M, hM⟩ : ∃ M, M = (mooreL xs).1 ++ (mooreL xs).2 := ⟨_, rfl⟩
      have HA := hid hA
      have HM := hid hM
      rw [← hA] at HBE HLM
      rw [← hM] at HLM HPM
      clear hA hM
      go_wp2_with fail
      refine (HTL.out.no _ _ xs ys _ RT.out RO.out HN.out).mono ?_
      rintro e w2 ⟨rfl, b⟩
      replace RT := hid (RT.out.below b)
      replace RO := hid (RO.out.below b)
      replace B : Hid (Below w.heap.size w w2) := B.out.trans (b.mono B.out.size)
      clear b
      go_wp2_with fail
      refine (slatem_no _ _ xs ys _ RT.out RO.out HN.out).mono ?_
      rintro e w3 ⟨rfl, b⟩
      replace RT := hid (RT.out.below b)
      replace RO := hid (RO.out.below b)
      replace B : Hid (Below w.heap.size w w3) := B.out.trans (b.mono B.out.size)
      clear b
      go_wp2_with fail
      refine (HTM.out.yes _ xs _ RT.out HG.out).mono ?_
      simp only [← HA.out, ← HM.out]
      rintro e w4 ⟨uRM, rfl, o, b⟩
      have RM := hid o.reads
      clear o
      replace RT := hid (RT.out.below b)
      replace RO := hid (RO.out.below b)
      replace B : Hid (Below w.heap.size w w4) := B.out.trans (b.mono B.out.size)
      clear b
      go_wp2_with fail
      refine (smoorefn_yes _ xs _ RT.out HG.out).mono ?_
      simp only [← HA.out, ← HM.out]
      rintro e w5 ⟨uRS, rfl, o, b⟩
      have RS := hid o.reads
      clear o
      replace RT := hid (RT.out.below b)
      replace RO := hid (RO.out.below b)
      replace RM := hid (RM.out.below b)
      replace B : Hid (Below w.heap.size w w5) := B.out.trans (b.mono B.out.size)
      clear b
      go_wp2_with fail
      refine (HTB.out.yes _ xs _ RT.out HG.out).mono ?_
      simp only [HBE.out]
      rintro e w6 ⟨rfl, b⟩
      replace RT := hid (RT.out.below b)
      replace RO := hid (RO.out.below b)
      replace RM := hid (RM.out.below b)
      replace RS := hid (RS.out.below b)
      replace B : Hid (Below w.heap.size w w6) := B.out.trans (b.mono B.out.size)
      clear b
      go_wp2_with fail
      refine (sbest_yes _ xs _ RT.out HG.out).mono ?_
      simp only [HBE.out]
      rintro e w7 ⟨rfl, b⟩
      replace RT := hid (RT.out.below b)
      replace RO := hid (RO.out.below b)
      replace RM := hid (RM.out.below b)
      replace RS := hid (RS.out.below b)
      replace B : Hid (Below w.heap.size w w7) := B.out.trans (b.mono B.out.size)
      clear b
      go_wp2_with fail
      refine (sameInts_same _ _ _ _ RM.out.r RS.out.r).mono ?_
      rintro e w8 ⟨rfl, b⟩
      replace RT := hid (RT.out.below b)
      replace RO := hid (RO.out.below b)
      replace RM := hid (RM.out.below b)
      replace B : Hid (Below w.heap.size w w8) := B.out.trans (b.mono B.out.size)
      clear b
      go_wp2_with fail
      refine (HTG.out _ xs true HG.out _ RT.out).mono ?_
      rintro e w9 ⟨rfl, b⟩
      replace RT := hid (RT.out.below b)
      replace RM := hid (RM.out.below b)
      replace B : Hid (Below w.heap.size w w9) := B.out.trans (b.mono B.out.size)
      clear b
      obtain ⟨X, hX⟩ : ∃ X, X = lateTU xs M xs.length := ⟨_, rfl⟩
      have HX := hid hX
      have hxa : X + A = xs.length := by rw [hX, lateTU_all]; exact HLM.out
      clear hX
      have hwx : IntKind.i64.wrap ((xs.length : Int) - (A : Int)) = (X : Int) := by rw [IntKind.wrap_i64]; omega
      go_wp2_with fail
      refine (HTL.out.yes _ _ xs M _ RT.out RM.out HG.out HPM.out).mono ?_
      simp only [← HX.out]
      rintro e w10 ⟨rfl, b⟩
      replace RT := hid (RT.out.below b)
      replace B : Hid (Below w.heap.size w w10) := B.out.trans (b.mono B.out.size)
      clear b
      have HXA := hid hxa
      clear hxa
      go_wp2
      all_goals first | (go_ret; exact ⟨by first | rfl | simp, B.out⟩) | (exfalso; omega)
    · replace hord : ordB xs.length ys = true := by simpa using hord
      obtain ⟨os, hos, hperm⟩ := ordB_of hord
      subst hos
      have HP := hid hperm
      have HGE := hid (mooreL_ge HG.out hperm)
      clear hord hperm
      obtain ⟨L, hL⟩ : ∃ L, L = lateTU xs os xs.length := ⟨_, rfl⟩
      have HL := hid hL
      clear hL
      have HBE := hid (bestL_eq HG.out)
      have HLM := hid (mooreL_late HG.out)
      have HPM := hid (mooreL_perm HG.out)
      obtain ⟨A, hA⟩ : ∃ A, A = (mooreL xs).1.length := ⟨_, rfl⟩
      obtain ⟨M, hM⟩ : ∃ M, M = (mooreL xs).1 ++ (mooreL xs).2 := ⟨_, rfl⟩
      have HA := hid hA
      have HM := hid hM
      rw [← hA] at HBE HLM HGE
      rw [← hM] at HLM HPM
      clear hA hM
      go_wp2_with fail
      refine (HTL.out.yes _ _ xs os _ RT.out RO.out HG.out HP.out).mono ?_
      simp only [← HL.out]
      rintro e w2 ⟨rfl, b⟩
      replace RT := hid (RT.out.below b)
      replace RO := hid (RO.out.below b)
      replace B : Hid (Below w.heap.size w w2) := B.out.trans (b.mono B.out.size)
      clear b
      go_wp2_with fail
      refine (slatem_yes _ _ xs os _ RT.out RO.out HG.out HP.out).mono ?_
      simp only [← HL.out]
      rintro e w3 ⟨rfl, b⟩
      replace RT := hid (RT.out.below b)
      replace RO := hid (RO.out.below b)
      replace B : Hid (Below w.heap.size w w3) := B.out.trans (b.mono B.out.size)
      clear b
      go_wp2_with fail
      refine (HTM.out.yes _ xs _ RT.out HG.out).mono ?_
      simp only [← HA.out, ← HM.out]
      rintro e w4 ⟨uRM, rfl, o, b⟩
      have RM := hid o.reads
      clear o
      replace RT := hid (RT.out.below b)
      replace RO := hid (RO.out.below b)
      replace B : Hid (Below w.heap.size w w4) := B.out.trans (b.mono B.out.size)
      clear b
      go_wp2_with fail
      refine (smoorefn_yes _ xs _ RT.out HG.out).mono ?_
      simp only [← HA.out, ← HM.out]
      rintro e w5 ⟨uRS, rfl, o, b⟩
      have RS := hid o.reads
      clear o
      replace RT := hid (RT.out.below b)
      replace RO := hid (RO.out.below b)
      replace RM := hid (RM.out.below b)
      replace B : Hid (Below w.heap.size w w5) := B.out.trans (b.mono B.out.size)
      clear b
      go_wp2_with fail
      refine (HTB.out.yes _ xs _ RT.out HG.out).mono ?_
      simp only [HBE.out]
      rintro e w6 ⟨rfl, b⟩
      replace RT := hid (RT.out.below b)
      replace RO := hid (RO.out.below b)
      replace RM := hid (RM.out.below b)
      replace RS := hid (RS.out.below b)
      replace B : Hid (Below w.heap.size w w6) := B.out.trans (b.mono B.out.size)
      clear b
      go_wp2_with fail
      refine (sbest_yes _ xs _ RT.out HG.out).mono ?_
      simp only [HBE.out]
      rintro e w7 ⟨rfl, b⟩
      replace RT := hid (RT.out.below b)
      replace RO := hid (RO.out.below b)
      replace RM := hid (RM.out.below b)
      replace RS := hid (RS.out.below b)
      replace B : Hid (Below w.heap.size w w7) := B.out.trans (b.mono B.out.size)
      clear b
      go_wp2_with fail
      refine (sameInts_same _ _ _ _ RM.out.r RS.out.r).mono ?_
      rintro e w8 ⟨rfl, b⟩
      replace RT := hid (RT.out.below b)
      replace RO := hid (RO.out.below b)
      replace RM := hid (RM.out.below b)
      replace B : Hid (Below w.heap.size w w8) := B.out.trans (b.mono B.out.size)
      clear b
      go_wp2_with fail
      refine (HTG.out _ xs true HG.out _ RT.out).mono ?_
      rintro e w9 ⟨rfl, b⟩
      replace RT := hid (RT.out.below b)
      replace RM := hid (RM.out.below b)
      replace B : Hid (Below w.heap.size w w9) := B.out.trans (b.mono B.out.size)
      clear b
      obtain ⟨X, hX⟩ : ∃ X, X = lateTU xs M xs.length := ⟨_, rfl⟩
      have HX := hid hX
      have hxa : X + A = xs.length := by rw [hX, lateTU_all]; exact HLM.out
      have hge2 : xs.length ≤ L + A := by rw [HL.out, lateTU_all]; exact HGE.out
      have hdlt : decide ((L : Int) < (X : Int)) = false := by simp; omega
      have hxl : (X : Int) ≤ (L : Int) := by omega
      have hxn : X ≤ L := by omega
      clear hX
      have hwx : IntKind.i64.wrap ((xs.length : Int) - (A : Int)) = (X : Int) := by rw [IntKind.wrap_i64]; omega
      go_wp2_with fail
      refine (HTL.out.yes _ _ xs M _ RT.out RM.out HG.out HPM.out).mono ?_
      simp only [← HX.out]
      rintro e w10 ⟨rfl, b⟩
      replace RT := hid (RT.out.below b)
      replace B : Hid (Below w.heap.size w w10) := B.out.trans (b.mono B.out.size)
      clear b
      have HXA := hid hxa
      clear hxa hge2
      go_wp2
      all_goals first | (go_ret; exact ⟨by first | rfl | simp, B.out⟩) | (exfalso; omega)
end Go.Proofs.Ytpkngcamaahhdab
