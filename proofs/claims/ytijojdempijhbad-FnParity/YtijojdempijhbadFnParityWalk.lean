/-
  The law FnParity answers true at every two lists of bytes.
-/
import Derived.Test.YtijojdempijhbadDrawPar
import Derived.Test.YtijojdempijhbadDrawSpl
import Derived.Test.YtijojdempijhbadWpMath
import Derived.Test.YtijojdempijhbadXFirst
import Derived.Test.YtijojdempijhbadIMend
import Derived.Test.YtijojdempijhbadSMend
import Derived.Test.YtijojdempijhbadIParity
import Derived.Test.YtijojdempijhbadSWhole
import Derived.Test.YtijojdempijhbadISplitFn
import Derived.Test.YtijojdempijhbadSSplit
import Derived.Test.YtijojdempijhbadIJoinP
import Derived.Test.YtijojdempijhbadSJoinP
import Derived.Test.YtijojdempijhbadJnMath
import Derived.Test.YtijojdempijhbadSameX
import Derived.Test.YtijojdempijhbadNumOf
import Derived.Test.YtijojdempijhbadIsRow
namespace Go.Proofs.Ytijojdempijhbad
open Go.RowKit

theorem code_after13 {w w' : World} {v : Value} (h : CodeOk w.heap.size w v) (hb : Below w.heap.size w w') : CodeOk w'.heap.size w' v := by
  obtain ⟨a, len, cap, rfl, hl, hx⟩ := h.below hb
  refine ⟨a, len, cap, rfl, hl, ?_⟩
  rcases hx with hx | ⟨cb, off, rfl, hlt, hc⟩
  · exact .inl hx
  · exact .inr ⟨cb, off, rfl, Nat.lt_of_lt_of_le hlt hb.size, hc⟩
theorem xform {w : World} {v : Value} {xs : List XEl} (h : XReads w v xs) : ∃ a c, v = .slice a xs.length c := by obtain ⟨a, c, e, _⟩ := h; exact ⟨a, c, e⟩
set_option maxRecDepth 100000 in
set_option maxHeartbeats 40000000 in
theorem FnParity_walk (a0 : Option Addr) (len0 cap0 : Nat) (z0 : List Int) (a1 : Option Addr) (len1 cap1 : Nat) (z1 : List Int) (w : World) (h0 : IsRow .u8 w a0 len0 cap0 z0) (h1 : IsRow .u8 w a1 len1 cap1 z1) (b0 : cap0 * 1 ≤ 140737488351232) (b1 : cap1 * 1 ≤ 140737488351232) :
    Calls Try.prog 7 #[.slice a0 len0 cap0, .slice a1 len1 cap1] w fun e w' => e = .returned (.bool true) ∧ Below w.heap.size w w' := by
  have l0 : len0 ≤ cap0 := by rcases h0 with ⟨_, rfl, rfl, _⟩ | ⟨x, _, h, _⟩ <;> omega
  have l1 : len1 ≤ cap1 := by rcases h1 with ⟨_, rfl, rfl, _⟩ | ⟨x, _, h, _⟩ <;> omega
  by_cases hbig : (1048576 : Int) < (len0 : Int) + (len1 : Int)
  · clear h0 h1
    go_enter Try.func7, Try.ntmps7
    go_wp2
    go_ret
    exact ⟨rfl, Below.refl _ _⟩
  have HC0 := hid (code_of_row h0 (by omega))
  have HC1 := hid (code_of_row h1 (by omega))
  clear h0 h1
  go_enter Try.func7, Try.ntmps7
  go_wp2_with fail
  refine (drawWp_any _ _ HC0.out).mono ?_
  rintro e w1 ⟨u, rfl, xs, hxs, o1, b⟩
  obtain ⟨ax, cx, rfl⟩ := xform o1.reads
  have RX := hid o1.reads
  have BE := hid b
  clear b HC0 o1
  have hx9 := hxs.1
  clear hxs
  obtain ⟨Y, hY⟩ : ∃ Y, wpL xs = Y := ⟨_, rfl⟩
  obtain ⟨t, ht⟩ : ∃ t, wpB xs = t := ⟨_, rfl⟩
  obtain ⟨Pa, hP⟩ : ∃ P, parT xs = P := ⟨_, rfl⟩
  obtain ⟨gd, hg⟩ : ∃ t, goodP xs = t := ⟨_, rfl⟩
  have HY := hid hY
  have Ht := hid ht
  have HP := hid hP
  have HG := hid hg
  clear hY ht hP hg
  go_wp2_with fail
  refine (iwithpar_any _ xs Y t HY.out Ht.out _ RX.out).mono ?_
  rintro e w2 ⟨u2, rfl, o2, bb⟩
  obtain ⟨ay, cy, rfl⟩ := xform o2.reads
  have RY := hid o2.reads
  replace RX := hid (RX.out.below bb)
  replace BE := hid (BE.out.trans (bb.mono BE.out.size))
  clear bb o2
  go_wp2_with fail
  refine (swithpar_any _ xs Y t HY.out Ht.out _ RX.out).mono ?_
  rintro e w3 ⟨u3, rfl, o3, bb⟩
  obtain ⟨az, cz, rfl⟩ := xform o3.reads
  have RZ := hid o3.reads
  replace RX := hid (RX.out.below bb)
  replace RY := hid (RY.out.below bb)
  replace BE := hid (BE.out.trans (bb.mono BE.out.size))
  clear bb o3
  go_wp2_with fail
  refine (iparity_any _ xs Pa gd HP.out HG.out _ RX.out).mono ?_
  rintro e w4 ⟨rfl, bb⟩
  replace RX := hid (RX.out.below bb)
  replace RY := hid (RY.out.below bb)
  replace RZ := hid (RZ.out.below bb)
  replace BE := hid (BE.out.trans (bb.mono BE.out.size))
  clear bb
  go_wp2_with fail
  refine (sparity_any _ xs Pa gd HP.out HG.out _ RX.out).mono ?_
  rintro e w5 ⟨rfl, bb⟩
  replace RY := hid (RY.out.below bb)
  replace RZ := hid (RZ.out.below bb)
  replace BE := hid (BE.out.trans (bb.mono BE.out.size))
  clear bb RX
  have n0 : (t != t) = false := by simp
  have n1 : (gd != gd) = false := by simp
  go_wp2_with fail
  refine (sameX_same _ _ Y _ RY.out RZ.out).mono ?_
  rintro e w6 ⟨rfl, hw⟩
  have bb := sameX_below hw
  replace RY := hid (RY.out.below bb)
  replace BE := hid (BE.out.trans (bb.mono BE.out.size))
  clear bb hw RZ
  cases t
  · clear RY HY
    as_aux_lemma =>
      go_wp2_with fail
      refine (drawMend_any _ _ (code_after13 HC1.out BE.out)).mono ?_
      rintro e v1 ⟨um, km, rfl, xm, hxm, om, bb⟩
      obtain ⟨am, cm, rfl⟩ := xform om.reads
      have RM := hid om.reads
      replace BE := hid (BE.out.trans (bb.mono BE.out.size))
      clear bb om hxm
      obtain ⟨Tm, hTm⟩ : ∃ T, mendT xm km = T := ⟨_, rfl⟩
      obtain ⟨tm, htm⟩ : ∃ t, mendB xm km = t := ⟨_, rfl⟩
      have HTm := hid hTm
      have Htm := hid htm
      clear hTm htm
      go_wp2_with fail
      refine (imend_any _ xm km Tm tm HTm.out Htm.out _ RM.out).mono ?_
      rintro e v2 ⟨rfl, bb⟩
      replace BE := hid (BE.out.trans (bb.mono BE.out.size))
      replace RM := hid (RM.out.below bb)
      clear bb
      go_wp2_with fail
      refine (smend_any _ xm km Tm tm HTm.out Htm.out _ RM.out).mono ?_
      rintro e v3 ⟨rfl, bb⟩
      replace BE := hid (BE.out.trans (bb.mono BE.out.size))
      clear bb
      clear RM
      go_wp2_with fail
      refine (drawWhole_any _ _ (code_after13 HC1.out BE.out)).mono ?_
      rintro e v4 ⟨uw, rfl, xw, ow, bb⟩
      obtain ⟨aw, cw, rfl⟩ := xform ow.reads
      have RW := hid ow.reads
      replace BE := hid (BE.out.trans (bb.mono BE.out.size))
      clear bb ow
      obtain ⟨tw, htw⟩ : ∃ t, wholeB xw = t := ⟨_, rfl⟩
      obtain ⟨gw, hgw⟩ : ∃ t, goodP xw = t := ⟨_, rfl⟩
      have Htw := hid htw
      have Hgw := hid hgw
      clear htw hgw
      go_wp2_with fail
      refine (iwhole_any _ xw tw gw Htw.out Hgw.out _ RW.out).mono ?_
      rintro e v5 ⟨rfl, bb⟩
      replace BE := hid (BE.out.trans (bb.mono BE.out.size))
      replace RW := hid (RW.out.below bb)
      clear bb
      go_wp2_with fail
      refine (swhole_any _ xw tw gw Htw.out Hgw.out _ RW.out).mono ?_
      rintro e v6 ⟨rfl, bb⟩
      replace BE := hid (BE.out.trans (bb.mono BE.out.size))
      clear bb
      clear RW
      go_wp2_with fail
      refine (drawSpl_any _ _ (code_after13 HC1.out BE.out)).mono ?_
      rintro e v7 ⟨ss, ms, rfl, hss, bb⟩
      replace BE := hid (BE.out.trans (bb.mono BE.out.size))
      clear bb
      obtain ⟨Ys, hYs⟩ : ∃ Y, splL ss ms = Y := ⟨_, rfl⟩
      obtain ⟨ts, hts⟩ : ∃ t, splB ss ms = t := ⟨_, rfl⟩
      have HYs := hid hYs
      have Hts := hid hts
      clear hYs hts
      go_wp2_with fail
      refine (isplit_any ss ms _ Ys ts HYs.out Hts.out).mono ?_
      rintro e v8 ⟨us, rfl, os, bb⟩
      obtain ⟨asl, csl, rfl⟩ := xform os.reads
      have RS := hid os.reads
      replace BE := hid (BE.out.trans (bb.mono BE.out.size))
      clear bb os
      go_wp2_with fail
      refine (ssplit_any ss ms _ Ys ts HYs.out Hts.out).mono ?_
      rintro e v9 ⟨us2, rfl, os2, bb⟩
      obtain ⟨as2, cs2, rfl⟩ := xform os2.reads
      have RS2 := hid os2.reads
      replace RS := hid (RS.out.below bb)
      replace BE := hid (BE.out.trans (bb.mono BE.out.size))
      clear bb os2
      go_wp2_with fail
      refine (drawJoinP_any _ _ (code_after13 HC1.out BE.out)).mono ?_
      rintro e v10 ⟨uj, kj, rfl, xj, hxj, oj, bb⟩
      obtain ⟨aj, cj, rfl⟩ := xform oj.reads
      have RJ := hid oj.reads
      replace RS := hid (RS.out.below bb)
      replace RS2 := hid (RS2.out.below bb)
      replace BE := hid (BE.out.trans (bb.mono BE.out.size))
      clear bb oj hxj
      obtain ⟨Tj, hTj⟩ : ∃ T, joinT xj kj = T := ⟨_, rfl⟩
      obtain ⟨tj, htj⟩ : ∃ t, joinB xj kj = t := ⟨_, rfl⟩
      have HTj := hid hTj
      have Htj := hid htj
      clear hTj htj
      go_wp2_with fail
      refine (ijoinp_any _ xj kj Tj tj HTj.out Htj.out _ RJ.out).mono ?_
      rintro e v11 ⟨rfl, bb⟩
      replace BE := hid (BE.out.trans (bb.mono BE.out.size))
      replace RJ := hid (RJ.out.below bb)
      replace RS := hid (RS.out.below bb)
      replace RS2 := hid (RS2.out.below bb)
      clear bb
      go_wp2_with fail
      refine (sjoinp_any _ xj kj Tj tj HTj.out Htj.out _ RJ.out).mono ?_
      rintro e v12 ⟨rfl, bb⟩
      replace BE := hid (BE.out.trans (bb.mono BE.out.size))
      replace RS := hid (RS.out.below bb)
      replace RS2 := hid (RS2.out.below bb)
      clear bb
      clear RJ
      have q0 : (tm == tm) = true := by simp
      have q1 : (gw == gw) = true := by simp
      have q2 : (tw == tw) = true := by simp
      have q3 : (ts == ts) = true := by simp
      have q4 : (tj == tj) = true := by simp
      have n0 : (tm != tm) = false := by simp
      have n1 : (gw != gw) = false := by simp
      have n2 : (tw != tw) = false := by simp
      have n3 : (ts != ts) = false := by simp
      have n4 : (tj != tj) = false := by simp
      go_wp2_with fail
      refine (sameX_same _ _ Ys _ RS.out RS2.out).mono ?_
      rintro e v13 ⟨rfl, hw⟩
      have bb := sameX_below hw
      replace RS := hid (RS.out.below bb)
      replace BE := hid (BE.out.trans (bb.mono BE.out.size))
      clear bb hw RS2
      cases ts
      · go_wp2
        go_ret
        exact ⟨rfl, BE.out⟩
      obtain ⟨j1, j2⟩ := join_split Hts.out
      rw [HYs.out] at j1 j2
      have J1 := hid j1
      have J2 := hid j2
      clear j1 j2
      go_wp2_with fail
      refine (ijoinp_any _ Ys (ss.size : Int) ss true J2.out J1.out _ RS.out).mono ?_
      rintro e v14 ⟨rfl, bb⟩
      replace BE := hid (BE.out.trans (bb.mono BE.out.size))
      clear bb
      go_wp2
      go_ret
      exact ⟨rfl, BE.out⟩
  obtain ⟨p1, p2, p3, p4, p5⟩ := wp_parts Ht.out
  rw [HY.out] at p1 p2 p3 p4 p5
  have HW : Hid (wholeB Y = true) := by show _ = _; unfold wholeB; rw [p1, p2]; rfl
  have HG1 := hid p1
  have H4 := hid p4
  have H5 := hid p5
  have HL := hid p3
  clear p1 p2 p3 p4 p5
  go_wp2_with fail
  refine (iwhole_any _ Y true true HW.out HG1.out _ RY.out).mono ?_
  rintro e w7 ⟨rfl, bb⟩
  replace RY := hid (RY.out.below bb)
  replace BE := hid (BE.out.trans (bb.mono BE.out.size))
  clear bb
  go_wp2_with fail
  refine (numberOf_any _ _ _ (HC1.out.below BE.out)).mono ?_
  rintro e w' ⟨n1, hn1, rfl, hw⟩; obtain rfl := hw.symm
  have hyl : 0 < Y.length := by have := HL.out; omega
  have hy0 : ¬ (Y.length : Int) = 0 := by omega
  obtain ⟨f, hf⟩ : ∃ f, n1 % Y.length = f := ⟨_, rfl⟩
  have hfs : f < Y.length := by rw [← hf]; exact Nat.mod_lt _ hyl
  have e1 : (n1 : Int).tmod (Y.length : Int) = (f : Nat) := by rw [Int.tmod_eq_emod_of_nonneg (by omega), ← hf]; rfl
  have e2 : (n1 : Int) % (Y.length : Int) = (f : Nat) := by rw [← hf]; rfl
  have M5 := hid (H5.out f (by have := HL.out; omega))
  clear hf
  go_wp2_with fail
  refine (imend_any _ Y (f : Int) (Y.getD f xz) true M5.out.2 M5.out.1 _ RY.out).mono ?_
  rintro e w8 ⟨rfl, bb⟩
  replace RY := hid (RY.out.below bb)
  replace BE := hid (BE.out.trans (bb.mono BE.out.size))
  clear bb
  obtain ⟨yb, yo, yc, ey, hyc⟩ := RY.out.cells f hfs
  cases ey
  have c1 : w8.cell? ⟨yb, yo + f, none⟩ = some (.string (Y.getD f xz)) := hyc f hfs
  have hxl : xs.length < Y.length := by have := HL.out; omega
  have c2 : w8.cell? ⟨yb, yo + xs.length, none⟩ = some (.string Pa) := by
    have h := hyc xs.length hxl
    rw [H4.out, HP.out] at h
    exact h
  have hfi : (f : Int) < (Y.length : Int) := by omega
  have hxi : (xs.length : Int) < (Y.length : Int) := by omega
  obtain ⟨yf, hyf⟩ : ∃ y, Y.getD f xz = y := ⟨_, rfl⟩
  rw [hyf] at c1
  rw [hyf]
  clear hyc e1 e2 HY H5 M5 HW HG1 H4 HL RY hyf
  as_aux_lemma =>
    go_wp2_with fail
    refine (drawMend_any _ _ (code_after13 HC1.out BE.out)).mono ?_
    rintro e v1 ⟨um, km, rfl, xm, hxm, om, bb⟩
    obtain ⟨am, cm, rfl⟩ := xform om.reads
    have RM := hid om.reads
    replace BE := hid (BE.out.trans (bb.mono BE.out.size))
    clear bb om hxm
    obtain ⟨Tm, hTm⟩ : ∃ T, mendT xm km = T := ⟨_, rfl⟩
    obtain ⟨tm, htm⟩ : ∃ t, mendB xm km = t := ⟨_, rfl⟩
    have HTm := hid hTm
    have Htm := hid htm
    clear hTm htm
    go_wp2_with fail
    refine (imend_any _ xm km Tm tm HTm.out Htm.out _ RM.out).mono ?_
    rintro e v2 ⟨rfl, bb⟩
    replace BE := hid (BE.out.trans (bb.mono BE.out.size))
    replace RM := hid (RM.out.below bb)
    clear bb
    go_wp2_with fail
    refine (smend_any _ xm km Tm tm HTm.out Htm.out _ RM.out).mono ?_
    rintro e v3 ⟨rfl, bb⟩
    replace BE := hid (BE.out.trans (bb.mono BE.out.size))
    clear bb
    clear RM
    go_wp2_with fail
    refine (drawWhole_any _ _ (code_after13 HC1.out BE.out)).mono ?_
    rintro e v4 ⟨uw, rfl, xw, ow, bb⟩
    obtain ⟨aw, cw, rfl⟩ := xform ow.reads
    have RW := hid ow.reads
    replace BE := hid (BE.out.trans (bb.mono BE.out.size))
    clear bb ow
    obtain ⟨tw, htw⟩ : ∃ t, wholeB xw = t := ⟨_, rfl⟩
    obtain ⟨gw, hgw⟩ : ∃ t, goodP xw = t := ⟨_, rfl⟩
    have Htw := hid htw
    have Hgw := hid hgw
    clear htw hgw
    go_wp2_with fail
    refine (iwhole_any _ xw tw gw Htw.out Hgw.out _ RW.out).mono ?_
    rintro e v5 ⟨rfl, bb⟩
    replace BE := hid (BE.out.trans (bb.mono BE.out.size))
    replace RW := hid (RW.out.below bb)
    clear bb
    go_wp2_with fail
    refine (swhole_any _ xw tw gw Htw.out Hgw.out _ RW.out).mono ?_
    rintro e v6 ⟨rfl, bb⟩
    replace BE := hid (BE.out.trans (bb.mono BE.out.size))
    clear bb
    clear RW
    go_wp2_with fail
    refine (drawSpl_any _ _ (code_after13 HC1.out BE.out)).mono ?_
    rintro e v7 ⟨ss, ms, rfl, hss, bb⟩
    replace BE := hid (BE.out.trans (bb.mono BE.out.size))
    clear bb
    obtain ⟨Ys, hYs⟩ : ∃ Y, splL ss ms = Y := ⟨_, rfl⟩
    obtain ⟨ts, hts⟩ : ∃ t, splB ss ms = t := ⟨_, rfl⟩
    have HYs := hid hYs
    have Hts := hid hts
    clear hYs hts
    go_wp2_with fail
    refine (isplit_any ss ms _ Ys ts HYs.out Hts.out).mono ?_
    rintro e v8 ⟨us, rfl, os, bb⟩
    obtain ⟨asl, csl, rfl⟩ := xform os.reads
    have RS := hid os.reads
    replace BE := hid (BE.out.trans (bb.mono BE.out.size))
    clear bb os
    go_wp2_with fail
    refine (ssplit_any ss ms _ Ys ts HYs.out Hts.out).mono ?_
    rintro e v9 ⟨us2, rfl, os2, bb⟩
    obtain ⟨as2, cs2, rfl⟩ := xform os2.reads
    have RS2 := hid os2.reads
    replace RS := hid (RS.out.below bb)
    replace BE := hid (BE.out.trans (bb.mono BE.out.size))
    clear bb os2
    go_wp2_with fail
    refine (drawJoinP_any _ _ (code_after13 HC1.out BE.out)).mono ?_
    rintro e v10 ⟨uj, kj, rfl, xj, hxj, oj, bb⟩
    obtain ⟨aj, cj, rfl⟩ := xform oj.reads
    have RJ := hid oj.reads
    replace RS := hid (RS.out.below bb)
    replace RS2 := hid (RS2.out.below bb)
    replace BE := hid (BE.out.trans (bb.mono BE.out.size))
    clear bb oj hxj
    obtain ⟨Tj, hTj⟩ : ∃ T, joinT xj kj = T := ⟨_, rfl⟩
    obtain ⟨tj, htj⟩ : ∃ t, joinB xj kj = t := ⟨_, rfl⟩
    have HTj := hid hTj
    have Htj := hid htj
    clear hTj htj
    go_wp2_with fail
    refine (ijoinp_any _ xj kj Tj tj HTj.out Htj.out _ RJ.out).mono ?_
    rintro e v11 ⟨rfl, bb⟩
    replace BE := hid (BE.out.trans (bb.mono BE.out.size))
    replace RJ := hid (RJ.out.below bb)
    replace RS := hid (RS.out.below bb)
    replace RS2 := hid (RS2.out.below bb)
    clear bb
    go_wp2_with fail
    refine (sjoinp_any _ xj kj Tj tj HTj.out Htj.out _ RJ.out).mono ?_
    rintro e v12 ⟨rfl, bb⟩
    replace BE := hid (BE.out.trans (bb.mono BE.out.size))
    replace RS := hid (RS.out.below bb)
    replace RS2 := hid (RS2.out.below bb)
    clear bb
    clear RJ
    have q0 : (tm == tm) = true := by simp
    have q1 : (gw == gw) = true := by simp
    have q2 : (tw == tw) = true := by simp
    have q3 : (ts == ts) = true := by simp
    have q4 : (tj == tj) = true := by simp
    have n0 : (tm != tm) = false := by simp
    have n1 : (gw != gw) = false := by simp
    have n2 : (tw != tw) = false := by simp
    have n3 : (ts != ts) = false := by simp
    have n4 : (tj != tj) = false := by simp
    go_wp2_with fail
    refine (sameX_same _ _ Ys _ RS.out RS2.out).mono ?_
    rintro e v13 ⟨rfl, hw⟩
    have bb := sameX_below hw
    replace RS := hid (RS.out.below bb)
    replace BE := hid (BE.out.trans (bb.mono BE.out.size))
    clear bb hw RS2
    cases ts
    · go_wp2
      go_ret
      exact ⟨rfl, BE.out⟩
    obtain ⟨j1, j2⟩ := join_split Hts.out
    rw [HYs.out] at j1 j2
    have J1 := hid j1
    have J2 := hid j2
    clear j1 j2
    go_wp2_with fail
    refine (ijoinp_any _ Ys (ss.size : Int) ss true J2.out J1.out _ RS.out).mono ?_
    rintro e v14 ⟨rfl, bb⟩
    replace BE := hid (BE.out.trans (bb.mono BE.out.size))
    clear bb
    go_wp2
    go_ret
    exact ⟨rfl, BE.out⟩
end Go.Proofs.Ytijojdempijhbad
