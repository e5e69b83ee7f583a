/-
  The law FnShares answers true at every two lists of bytes.
-/
import Derived.Test.YtepnhbicmlfnhadDrawFairer
import Derived.Test.YtepnhbicmlfnhadIGrowFn
import Derived.Test.YtepnhbicmlfnhadIHalveFn
import Derived.Test.YtepnhbicmlfnhadSHalveFn
import Derived.Test.YtepnhbicmlfnhadIFairer
import Derived.Test.YtepnhbicmlfnhadSFairer
import Derived.Test.YtepnhbicmlfnhadISpread
import Derived.Test.YtepnhbicmlfnhadSSpread
import Derived.Test.YtepnhbicmlfnhadSameK
import Derived.Test.YtepnhbicmlfnhadIsRow
namespace Go.Proofs.Ytepnhbicmlfnhad
open Go.RowKit

theorem code_after10s {w w' : World} {v : Value} (h : CodeOk w.heap.size w v) (hb : Below w.heap.size w w') : CodeOk w'.heap.size w' v := by
  obtain ⟨a, len, cap, rfl, hl, hx⟩ := h.below hb
  refine ⟨a, len, cap, rfl, hl, ?_⟩
  rcases hx with hx | ⟨cb, off, rfl, hlt, hc⟩
  · exact .inl hx
  · exact .inr ⟨cb, off, rfl, Nat.lt_of_lt_of_le hlt hb.size, hc⟩
theorem halve_good {D : ShD} (h : GoodS D) : GoodS (halveS D) := by
  refine ⟨by rw [halve_len]; exact h.l1, by rw [halve_len]; exact h.l5, fun i hi => ?_, h.r1, h.r2⟩
  rw [halve_len] at hi
  have h1 := h.win i hi
  have e : fl (halveS D).f0 i = halfOf (fl D.f0 i) := fl_map _ _ _ hi
  rw [e]
  unfold halfOf
  omega
theorem halveB_is (D : ShD) : halveB D = goodS D := by
  unfold halveB
  cases h : goodS D
  · rfl
  · rw [(goodS_iff _).2 (halve_good ((goodS_iff D).1 h))]; rfl
set_option maxRecDepth 100000 in
set_option maxHeartbeats 40000000 in
theorem FnShares_walk (a0 : Option Addr) (len0 cap0 : Nat) (z0 : List Int) (a1 : Option Addr) (len1 cap1 : Nat) (z1 : List Int) (w : World) (h0 : IsRow .u8 w a0 len0 cap0 z0) (h1 : IsRow .u8 w a1 len1 cap1 z1) (b0 : cap0 * 1 ≤ 140737488351232) (b1 : cap1 * 1 ≤ 140737488351232) :
    Calls Try.prog 3 #[.slice a0 len0 cap0, .slice a1 len1 cap1] w fun e w' => e = .returned (.bool true) ∧ Below w.heap.size w w' := by
  have l0 : len0 ≤ cap0 := by rcases h0 with ⟨_, rfl, rfl, _⟩ | ⟨x, _, h, _⟩ <;> omega
  have l1 : len1 ≤ cap1 := by rcases h1 with ⟨_, rfl, rfl, _⟩ | ⟨x, _, h, _⟩ <;> omega
  by_cases hbig : (1048576 : Int) < (len0 : Int) + (len1 : Int)
  · clear h0 h1
    go_enter Try.func3, Try.ntmps3
    go_wp2
    go_ret
    exact ⟨rfl, Below.refl _ _⟩
  have HC0 := hid (code_of_row h0 (by omega))
  have HC1 := hid (code_of_row h1 (by omega))
  clear h0 h1
  have B : Hid (Below w.heap.size w w) := Below.refl _ _
  go_enter Try.func3, Try.ntmps3
  go_wp2_with fail
  refine (drawGrow_any _ _ HC0.out).mono ?_
  rintro e w1 ⟨t, rfl, D, hO, b⟩
  have hr := hO.reads
  obtain ⟨ta, tk, rfl⟩ := sh_form hr
  have RT := hid hr
  clear hr hO
  replace B : Hid (Below w.heap.size w w1) := B.out.trans (b.mono B.out.size)
  clear b
  have b : Below w1.heap.size w1 (w1.alloc (.cells #[.slice ta D.f0.length tk, .int .i64 D.f1] 25)) := (Below.refl _ _).alloc (Nat.le_refl _) _
  replace RT := hid (RT.out.below b)
  replace B : Hid (Below w.heap.size w (w1.alloc (.cells #[.slice ta D.f0.length tk, .int .i64 D.f1] 25))) := B.out.trans (b.mono B.out.size)
  have KT := hid (boxL_new w1 [.slice ta D.f0.length tk, .int .i64 D.f1] 25)
  clear b
  obtain ⟨gd, hgd⟩ : ∃ t, goodS D = t := ⟨_, rfl⟩
  obtain ⟨ok, hok⟩ : ∃ t, growB D = t := ⟨_, rfl⟩
  obtain ⟨X, hX⟩ : ∃ X, growR D = X := ⟨_, rfl⟩
  obtain ⟨Y, hY⟩ : ∃ X, halveR D = X := ⟨_, rfl⟩
  obtain ⟨p, hp⟩ : ∃ x, fpS D = x := ⟨_, rfl⟩
  obtain ⟨q, hq⟩ : ∃ x, fqS D = x := ⟨_, rfl⟩
  obtain ⟨sd, hsd⟩ : ∃ x, sprR D = x := ⟨_, rfl⟩
  have HGD := hid hgd
  have HOK := hid hok
  have HX := hid hX
  have HY := hid hY
  have HP := hid hp
  have HQ := hid hq
  have HSD := hid hsd
  have HHB : Hid (halveB D = gd) := by rw [halveB_is]; exact hgd
  clear hgd hok hX hY hp hq hsd
  obtain ⟨q00, q01⟩ := KT.out.two
  go_wp2_with fail
  refine (igrowAll_any _ D _ RT.out X ok HX.out HOK.out).mono ?_
  rintro e w2 ⟨xu, rfl, hO, b⟩
  have hr := hO.reads
  obtain ⟨xa, xk, rfl⟩ := sh_form hr
  have RX := hid hr
  clear hr hO
  clear q00 q01
  replace KT := hid (KT.out.below b KT.out.lt)
  replace RT := hid (RT.out.below b)
  replace B : Hid (Below w.heap.size w w2) := B.out.trans (b.mono B.out.size)
  clear b
  have b : Below w2.heap.size w2 (w2.alloc (.cells #[.slice xa X.f0.length xk, .int .i64 X.f1] 25)) := (Below.refl _ _).alloc (Nat.le_refl _) _
  replace KT := hid (KT.out.below b KT.out.lt)
  replace RT := hid (RT.out.below b)
  replace RX := hid (RX.out.below b)
  replace B : Hid (Below w.heap.size w (w2.alloc (.cells #[.slice xa X.f0.length xk, .int .i64 X.f1] 25))) := B.out.trans (b.mono B.out.size)
  have KX := hid (boxL_new w2 [.slice xa X.f0.length xk, .int .i64 X.f1] 25)
  clear b
  obtain ⟨q00, q01⟩ := KT.out.two
  obtain ⟨q10, q11⟩ := KX.out.two
  go_wp2_with fail
  refine (sgrowAll_any _ D _ RT.out X ok HX.out HOK.out).mono ?_
  rintro e w3 ⟨yu, rfl, hO, b⟩
  have hr := hO.reads
  obtain ⟨ya, yk, rfl⟩ := sh_form hr
  have RY := hid hr
  clear hr hO
  clear q00 q01 q10 q11
  replace KT := hid (KT.out.below b KT.out.lt)
  replace KX := hid (KX.out.below b KX.out.lt)
  replace RT := hid (RT.out.below b)
  replace RX := hid (RX.out.below b)
  replace B : Hid (Below w.heap.size w w3) := B.out.trans (b.mono B.out.size)
  clear b
  have b : Below w3.heap.size w3 (w3.alloc (.cells #[.slice ya X.f0.length yk, .int .i64 X.f1] 25)) := (Below.refl _ _).alloc (Nat.le_refl _) _
  replace KT := hid (KT.out.below b KT.out.lt)
  replace KX := hid (KX.out.below b KX.out.lt)
  replace RT := hid (RT.out.below b)
  replace RX := hid (RX.out.below b)
  replace RY := hid (RY.out.below b)
  replace B : Hid (Below w.heap.size w (w3.alloc (.cells #[.slice ya X.f0.length yk, .int .i64 X.f1] 25))) := B.out.trans (b.mono B.out.size)
  have KY := hid (boxL_new w3 [.slice ya X.f0.length yk, .int .i64 X.f1] 25)
  clear b
  obtain ⟨q00, q01⟩ := KT.out.two
  obtain ⟨q10, q11⟩ := KX.out.two
  obtain ⟨q20, q21⟩ := KY.out.two
  go_wp2_with fail
  refine (ifair_any _ D _ RT.out p q gd HP.out HQ.out HGD.out).mono ?_
  rintro e w4 ⟨rfl, b⟩
  clear q00 q01 q10 q11 q20 q21
  replace KT := hid (KT.out.below b KT.out.lt)
  replace KX := hid (KX.out.below b KX.out.lt)
  replace KY := hid (KY.out.below b KY.out.lt)
  replace RT := hid (RT.out.below b)
  replace RX := hid (RX.out.below b)
  replace RY := hid (RY.out.below b)
  replace B : Hid (Below w.heap.size w w4) := B.out.trans (b.mono B.out.size)
  clear b
  obtain ⟨q00, q01⟩ := KT.out.two
  obtain ⟨q10, q11⟩ := KX.out.two
  obtain ⟨q20, q21⟩ := KY.out.two
  go_wp2_with fail
  refine (sfair_any _ D _ RT.out p q gd HP.out HQ.out HGD.out).mono ?_
  rintro e w5 ⟨rfl, b⟩
  clear q00 q01 q10 q11 q20 q21
  replace KT := hid (KT.out.below b KT.out.lt)
  replace KX := hid (KX.out.below b KX.out.lt)
  replace KY := hid (KY.out.below b KY.out.lt)
  replace RT := hid (RT.out.below b)
  replace RX := hid (RX.out.below b)
  replace RY := hid (RY.out.below b)
  replace B : Hid (Below w.heap.size w w5) := B.out.trans (b.mono B.out.size)
  clear b
  obtain ⟨q00, q01⟩ := KT.out.two
  obtain ⟨q10, q11⟩ := KX.out.two
  obtain ⟨q20, q21⟩ := KY.out.two
  go_wp2_with fail
  refine (ispread_any _ D _ RT.out sd gd HSD.out HGD.out).mono ?_
  rintro e w6 ⟨rfl, b⟩
  clear q00 q01 q10 q11 q20 q21
  replace KT := hid (KT.out.below b KT.out.lt)
  replace KX := hid (KX.out.below b KX.out.lt)
  replace KY := hid (KY.out.below b KY.out.lt)
  replace RT := hid (RT.out.below b)
  replace RX := hid (RX.out.below b)
  replace RY := hid (RY.out.below b)
  replace B : Hid (Below w.heap.size w w6) := B.out.trans (b.mono B.out.size)
  clear b
  obtain ⟨q00, q01⟩ := KT.out.two
  obtain ⟨q10, q11⟩ := KX.out.two
  obtain ⟨q20, q21⟩ := KY.out.two
  go_wp2_with fail
  refine (sspread_any _ D _ RT.out sd gd HSD.out HGD.out).mono ?_
  rintro e w7 ⟨rfl, b⟩
  clear q00 q01 q10 q11 q20 q21
  replace KT := hid (KT.out.below b KT.out.lt)
  replace KX := hid (KX.out.below b KX.out.lt)
  replace KY := hid (KY.out.below b KY.out.lt)
  replace RT := hid (RT.out.below b)
  replace RX := hid (RX.out.below b)
  replace RY := hid (RY.out.below b)
  replace B : Hid (Below w.heap.size w w7) := B.out.trans (b.mono B.out.size)
  clear b
  obtain ⟨q00, q01⟩ := KT.out.two
  obtain ⟨q10, q11⟩ := KX.out.two
  obtain ⟨q20, q21⟩ := KY.out.two
  go_wp2_with fail
  refine (ihalveAll_any _ D _ RT.out Y gd HY.out HHB.out).mono ?_
  rintro e w8 ⟨hu, rfl, hO, b⟩
  have hr := hO.reads
  obtain ⟨ha, hk, rfl⟩ := sh_form hr
  have RH := hid hr
  clear hr hO
  clear q00 q01 q10 q11 q20 q21
  replace KT := hid (KT.out.below b KT.out.lt)
  replace KX := hid (KX.out.below b KX.out.lt)
  replace KY := hid (KY.out.below b KY.out.lt)
  replace RT := hid (RT.out.below b)
  replace RX := hid (RX.out.below b)
  replace RY := hid (RY.out.below b)
  replace B : Hid (Below w.heap.size w w8) := B.out.trans (b.mono B.out.size)
  clear b
  have b : Below w8.heap.size w8 (w8.alloc (.cells #[.slice ha Y.f0.length hk, .int .i64 Y.f1] 25)) := (Below.refl _ _).alloc (Nat.le_refl _) _
  replace KT := hid (KT.out.below b KT.out.lt)
  replace KX := hid (KX.out.below b KX.out.lt)
  replace KY := hid (KY.out.below b KY.out.lt)
  replace RT := hid (RT.out.below b)
  replace RX := hid (RX.out.below b)
  replace RY := hid (RY.out.below b)
  replace RH := hid (RH.out.below b)
  replace B : Hid (Below w.heap.size w (w8.alloc (.cells #[.slice ha Y.f0.length hk, .int .i64 Y.f1] 25))) := B.out.trans (b.mono B.out.size)
  have KH := hid (boxL_new w8 [.slice ha Y.f0.length hk, .int .i64 Y.f1] 25)
  clear b
  obtain ⟨q00, q01⟩ := KT.out.two
  obtain ⟨q10, q11⟩ := KX.out.two
  obtain ⟨q20, q21⟩ := KY.out.two
  obtain ⟨q30, q31⟩ := KH.out.two
  go_wp2_with fail
  refine (shalveAll_any _ D _ RT.out Y gd HY.out HHB.out).mono ?_
  rintro e w9 ⟨ju, rfl, hO, b⟩
  have hr := hO.reads
  obtain ⟨ja, jk, rfl⟩ := sh_form hr
  have RJ := hid hr
  clear hr hO
  clear q00 q01 q10 q11 q20 q21 q30 q31
  replace KT := hid (KT.out.below b KT.out.lt)
  replace KX := hid (KX.out.below b KX.out.lt)
  replace KY := hid (KY.out.below b KY.out.lt)
  replace KH := hid (KH.out.below b KH.out.lt)
  replace RT := hid (RT.out.below b)
  replace RX := hid (RX.out.below b)
  replace RY := hid (RY.out.below b)
  replace RH := hid (RH.out.below b)
  replace B : Hid (Below w.heap.size w w9) := B.out.trans (b.mono B.out.size)
  clear b
  have b : Below w9.heap.size w9 (w9.alloc (.cells #[.slice ja Y.f0.length jk, .int .i64 Y.f1] 25)) := (Below.refl _ _).alloc (Nat.le_refl _) _
  replace KT := hid (KT.out.below b KT.out.lt)
  replace KX := hid (KX.out.below b KX.out.lt)
  replace KY := hid (KY.out.below b KY.out.lt)
  replace KH := hid (KH.out.below b KH.out.lt)
  replace RT := hid (RT.out.below b)
  replace RX := hid (RX.out.below b)
  replace RY := hid (RY.out.below b)
  replace RH := hid (RH.out.below b)
  replace RJ := hid (RJ.out.below b)
  replace B : Hid (Below w.heap.size w (w9.alloc (.cells #[.slice ja Y.f0.length jk, .int .i64 Y.f1] 25))) := B.out.trans (b.mono B.out.size)
  have KJ := hid (boxL_new w9 [.slice ja Y.f0.length jk, .int .i64 Y.f1] 25)
  clear b
  have n1 : (ok != ok) = false := by cases ok <;> rfl
  have n2 : (gd != gd) = false := by cases gd <;> rfl
  have n3 : (p != p) = false := by simp
  have n4 : (q != q) = false := by simp
  have n5 : (sd != sd) = false := by simp
  obtain ⟨q00, q01⟩ := KT.out.two
  obtain ⟨q10, q11⟩ := KX.out.two
  obtain ⟨q20, q21⟩ := KY.out.two
  obtain ⟨q30, q31⟩ := KH.out.two
  obtain ⟨q40, q41⟩ := KJ.out.two
  go_wp2_with fail
  refine (sameShares_same _ _ X _ RX.out RY.out).mono ?_
  rintro e w10 ⟨rfl, b⟩
  clear q00 q01 q10 q11 q20 q21 q30 q31 q40 q41
  replace KT := hid (KT.out.below b KT.out.lt)
  replace KX := hid (KX.out.below b KX.out.lt)
  replace KY := hid (KY.out.below b KY.out.lt)
  replace KH := hid (KH.out.below b KH.out.lt)
  replace KJ := hid (KJ.out.below b KJ.out.lt)
  replace RT := hid (RT.out.below b)
  replace RX := hid (RX.out.below b)
  replace RY := hid (RY.out.below b)
  replace RH := hid (RH.out.below b)
  replace RJ := hid (RJ.out.below b)
  replace B : Hid (Below w.heap.size w w10) := B.out.trans (b.mono B.out.size)
  clear b
  obtain ⟨q00, q01⟩ := KT.out.two
  obtain ⟨q10, q11⟩ := KX.out.two
  obtain ⟨q20, q21⟩ := KY.out.two
  obtain ⟨q30, q31⟩ := KH.out.two
  obtain ⟨q40, q41⟩ := KJ.out.two
  go_wp2_with fail
  refine (sameShares_same _ _ Y _ RH.out RJ.out).mono ?_
  rintro e w11 ⟨rfl, b⟩
  clear q00 q01 q10 q11 q20 q21 q30 q31 q40 q41
  replace KT := hid (KT.out.below b KT.out.lt)
  replace KX := hid (KX.out.below b KX.out.lt)
  replace KY := hid (KY.out.below b KY.out.lt)
  replace KH := hid (KH.out.below b KH.out.lt)
  replace KJ := hid (KJ.out.below b KJ.out.lt)
  replace RT := hid (RT.out.below b)
  replace RX := hid (RX.out.below b)
  replace RY := hid (RY.out.below b)
  replace RH := hid (RH.out.below b)
  replace RJ := hid (RJ.out.below b)
  replace B : Hid (Below w.heap.size w w11) := B.out.trans (b.mono B.out.size)
  clear b
  obtain ⟨q00, q01⟩ := KT.out.two
  obtain ⟨q10, q11⟩ := KX.out.two
  obtain ⟨q20, q21⟩ := KY.out.two
  obtain ⟨q30, q31⟩ := KH.out.two
  obtain ⟨q40, q41⟩ := KJ.out.two
  go_wp2_with fail
  refine (igoodS_eq _ D gd HGD.out _ RT.out).mono ?_
  rintro e w12 ⟨rfl, b⟩
  clear q00 q01 q10 q11 q20 q21 q30 q31 q40 q41
  replace KT := hid (KT.out.below b KT.out.lt)
  replace KX := hid (KX.out.below b KX.out.lt)
  replace KY := hid (KY.out.below b KY.out.lt)
  replace KH := hid (KH.out.below b KH.out.lt)
  replace KJ := hid (KJ.out.below b KJ.out.lt)
  replace RT := hid (RT.out.below b)
  replace RX := hid (RX.out.below b)
  replace RY := hid (RY.out.below b)
  replace RH := hid (RH.out.below b)
  replace RJ := hid (RJ.out.below b)
  replace B : Hid (Below w.heap.size w w12) := B.out.trans (b.mono B.out.size)
  clear b
  clear n1 n3 n4 n5 KY RY KJ RJ
  cases gd
  · have hok0 : ok = false := by rw [← HOK.out]; unfold growB; rw [HGD.out]; rfl
    subst hok0
    go_wp2_with fail
    refine (drawFairer_any _ _ (code_after10s HC1.out B.out)).mono ?_
    rintro e w13 ⟨eu, fu, rfl, E, F, hr, hs, b⟩
    obtain ⟨ea, ek, rfl⟩ := sh_form hr
    obtain ⟨fa, fk, rfl⟩ := sh_form hs
    have RE := hid hr
    have RF := hid hs
    clear hr hs
    replace B : Hid (Below w.heap.size w w13) := B.out.trans (b.mono B.out.size)
    clear b
    have b : Below w13.heap.size w13 (w13.alloc (.cells #[.slice ea E.f0.length ek, .int .i64 E.f1] 25)) := (Below.refl _ _).alloc (Nat.le_refl _) _
    replace RE := hid (RE.out.below b)
    replace RF := hid (RF.out.below b)
    replace B : Hid (Below w.heap.size w (w13.alloc (.cells #[.slice ea E.f0.length ek, .int .i64 E.f1] 25))) := B.out.trans (b.mono B.out.size)
    have KE := hid (boxL_new w13 [.slice ea E.f0.length ek, .int .i64 E.f1] 25)
    clear b
    have b : Below (w13.alloc (.cells #[.slice ea E.f0.length ek, .int .i64 E.f1] 25)).heap.size (w13.alloc (.cells #[.slice ea E.f0.length ek, .int .i64 E.f1] 25)) ((w13.alloc (.cells #[.slice ea E.f0.length ek, .int .i64 E.f1] 25)).alloc (.cells #[.slice fa F.f0.length fk, .int .i64 F.f1] 25)) := (Below.refl _ _).alloc (Nat.le_refl _) _
    replace KE := hid (KE.out.below b KE.out.lt)
    replace RE := hid (RE.out.below b)
    replace RF := hid (RF.out.below b)
    replace B : Hid (Below w.heap.size w ((w13.alloc (.cells #[.slice ea E.f0.length ek, .int .i64 E.f1] 25)).alloc (.cells #[.slice fa F.f0.length fk, .int .i64 F.f1] 25))) := B.out.trans (b.mono B.out.size)
    have KF := hid (boxL_new (w13.alloc (.cells #[.slice ea E.f0.length ek, .int .i64 E.f1] 25)) [.slice fa F.f0.length fk, .int .i64 F.f1] 25)
    clear b
    rw [World.size_alloc] at KF
    obtain ⟨fr, hfr⟩ : ∃ t, frR E F = t := ⟨_, rfl⟩
    obtain ⟨bo, hbo⟩ : ∃ t, bothS E F = t := ⟨_, rfl⟩
    have HFR := hid hfr
    have HFI : Hid (frI E F = fr) := hfr
    have HBO := hid hbo
    clear hfr hbo
    obtain ⟨q00, q01⟩ := KE.out.two
    obtain ⟨q10, q11⟩ := KF.out.two
    go_wp2_with fail
    refine (ifairer_any _ _ E F _ RE.out RF.out fr bo HFI.out HBO.out).mono ?_
    rintro e w14 ⟨rfl, b⟩
    clear q00 q01 q10 q11
    replace KE := hid (KE.out.below b KE.out.lt)
    replace KF := hid (KF.out.below b KF.out.lt)
    replace RE := hid (RE.out.below b)
    replace RF := hid (RF.out.below b)
    replace B : Hid (Below w.heap.size w w14) := B.out.trans (b.mono B.out.size)
    clear b
    obtain ⟨q00, q01⟩ := KE.out.two
    obtain ⟨q10, q11⟩ := KF.out.two
    go_wp2_with fail
    refine (sfairer_any _ _ E F _ RE.out RF.out fr bo HFR.out HBO.out).mono ?_
    rintro e w15 ⟨rfl, b⟩
    clear q00 q01 q10 q11
    replace KE := hid (KE.out.below b KE.out.lt)
    replace KF := hid (KF.out.below b KF.out.lt)
    replace RE := hid (RE.out.below b)
    replace RF := hid (RF.out.below b)
    replace B : Hid (Below w.heap.size w w15) := B.out.trans (b.mono B.out.size)
    clear b
    have m1 : (bo == bo) = true := by simp
    have m2 : (fr == fr) = true := by simp
    go_wp2
    go_ret
    exact ⟨rfl, B.out⟩
  · skip
    have GD : GoodS D := (goodS_iff D).1 HGD.out
    have eD := GD.ends
    have hsd2 : sprS D = sd := by rw [← HSD.out]; unfold sprR; rw [HGD.out]; rfl
    have hp2 : fairP D = p := by rw [← HP.out]; unfold fpS; rw [HGD.out]; rfl
    have hq2 : fairQ D = q := by rw [← HQ.out]; unfold fqS; rw [HGD.out]; rfl
    have hd0 : 0 ≤ sd ∧ sd ≤ 10000 := by rw [← hsd2]; unfold sprS; omega
    have hch := GD.chiu
    have hal := GD.alike
    rw [hp2, hq2] at hch hal
    rw [hsd2] at hal
    have u1 : decide (q < p) = false := by rw [decide_eq_false_iff_not]; omega
    obtain ⟨bb, hbb⟩ : ∃ b, (sd == 0) = b := ⟨_, rfl⟩
    have u2 : (p == q) = bb := by
      rw [← hbb]
      by_cases h : sd = 0
      · rw [hal.1 h, h]; simp
      · have h2 : ¬ p = q := fun e => h (hal.2 e)
        rw [beq_eq_false_iff_ne.2 h, beq_eq_false_iff_ne.2 h2]
    have u3 : (bb != bb) = false := by cases bb <;> rfl
    have GY : GoodS Y ∧ sprS Y ≤ (sd + 1) / 2 := by
      have e : Y = halveS D := by rw [← HY.out]; unfold halveR; rw [HHB.out]; rfl
      rw [e]
      refine ⟨halve_good GD, ?_⟩
      have := GD.halve_spread
      rw [hsd2] at this
      exact this
    obtain ⟨sy, hsy⟩ : ∃ x, sprS Y = x := ⟨_, rfl⟩
    rw [hsy] at GY
    have HSY : Hid (sprRI Y = sy) := by show _ = _; unfold sprRI; rw [(goodS_iff Y).2 GY.1]; exact hsy
    have HGY := hid ((goodS_iff Y).2 GY.1)
    have HGD2 := hid GD
    have HD2 := hid hsd2
    obtain ⟨m2, hm2⟩ : ∃ x, x = (sd + 1) / 2 := ⟨_, rfl⟩
    have hw1 : IntKind.i64.wrap (sd + 1) = sd + 1 := by rw [IntKind.wrap_i64]; omega
    have hw2 : (sd + 1).tdiv 2 = m2 := by rw [hm2]; exact Int.tdiv_eq_ediv_of_nonneg (by omega)
    have hw3 : IntKind.i64.wrap m2 = m2 := by rw [IntKind.wrap_i64]; omega
    have u4 : decide (m2 < sy) = false := by have := GY.2; rw [decide_eq_false_iff_not]; omega
    clear GD eD hsd2 hp2 hq2 hd0 hch hal GY hsy hm2
    cases ok
    · skip
      obtain ⟨q00, q01⟩ := KH.out.two
      go_wp2_with fail
      refine (ispread_any _ Y _ RH.out sy true HSY.out HGY.out).mono ?_
      rintro e w13 ⟨rfl, b⟩
      clear q00 q01
      replace KH := hid (KH.out.below b KH.out.lt)
      replace RH := hid (RH.out.below b)
      replace B : Hid (Below w.heap.size w w13) := B.out.trans (b.mono B.out.size)
      clear b
      go_wp2_with fail
      refine (drawFairer_any _ _ (code_after10s HC1.out B.out)).mono ?_
      rintro e w14 ⟨eu, fu, rfl, E, F, hr, hs, b⟩
      obtain ⟨ea, ek, rfl⟩ := sh_form hr
      obtain ⟨fa, fk, rfl⟩ := sh_form hs
      have RE := hid hr
      have RF := hid hs
      clear hr hs
      replace B : Hid (Below w.heap.size w w14) := B.out.trans (b.mono B.out.size)
      clear b
      have b : Below w14.heap.size w14 (w14.alloc (.cells #[.slice ea E.f0.length ek, .int .i64 E.f1] 25)) := (Below.refl _ _).alloc (Nat.le_refl _) _
      replace RE := hid (RE.out.below b)
      replace RF := hid (RF.out.below b)
      replace B : Hid (Below w.heap.size w (w14.alloc (.cells #[.slice ea E.f0.length ek, .int .i64 E.f1] 25))) := B.out.trans (b.mono B.out.size)
      have KE := hid (boxL_new w14 [.slice ea E.f0.length ek, .int .i64 E.f1] 25)
      clear b
      have b : Below (w14.alloc (.cells #[.slice ea E.f0.length ek, .int .i64 E.f1] 25)).heap.size (w14.alloc (.cells #[.slice ea E.f0.length ek, .int .i64 E.f1] 25)) ((w14.alloc (.cells #[.slice ea E.f0.length ek, .int .i64 E.f1] 25)).alloc (.cells #[.slice fa F.f0.length fk, .int .i64 F.f1] 25)) := (Below.refl _ _).alloc (Nat.le_refl _) _
      replace KE := hid (KE.out.below b KE.out.lt)
      replace RE := hid (RE.out.below b)
      replace RF := hid (RF.out.below b)
      replace B : Hid (Below w.heap.size w ((w14.alloc (.cells #[.slice ea E.f0.length ek, .int .i64 E.f1] 25)).alloc (.cells #[.slice fa F.f0.length fk, .int .i64 F.f1] 25))) := B.out.trans (b.mono B.out.size)
      have KF := hid (boxL_new (w14.alloc (.cells #[.slice ea E.f0.length ek, .int .i64 E.f1] 25)) [.slice fa F.f0.length fk, .int .i64 F.f1] 25)
      clear b
      rw [World.size_alloc] at KF
      obtain ⟨fr, hfr⟩ : ∃ t, frR E F = t := ⟨_, rfl⟩
      obtain ⟨bo, hbo⟩ : ∃ t, bothS E F = t := ⟨_, rfl⟩
      have HFR := hid hfr
      have HFI : Hid (frI E F = fr) := hfr
      have HBO := hid hbo
      clear hfr hbo
      obtain ⟨q00, q01⟩ := KE.out.two
      obtain ⟨q10, q11⟩ := KF.out.two
      go_wp2_with fail
      refine (ifairer_any _ _ E F _ RE.out RF.out fr bo HFI.out HBO.out).mono ?_
      rintro e w15 ⟨rfl, b⟩
      clear q00 q01 q10 q11
      replace KE := hid (KE.out.below b KE.out.lt)
      replace KF := hid (KF.out.below b KF.out.lt)
      replace RE := hid (RE.out.below b)
      replace RF := hid (RF.out.below b)
      replace B : Hid (Below w.heap.size w w15) := B.out.trans (b.mono B.out.size)
      clear b
      obtain ⟨q00, q01⟩ := KE.out.two
      obtain ⟨q10, q11⟩ := KF.out.two
      go_wp2_with fail
      refine (sfairer_any _ _ E F _ RE.out RF.out fr bo HFR.out HBO.out).mono ?_
      rintro e w16 ⟨rfl, b⟩
      clear q00 q01 q10 q11
      replace KE := hid (KE.out.below b KE.out.lt)
      replace KF := hid (KF.out.below b KF.out.lt)
      replace RE := hid (RE.out.below b)
      replace RF := hid (RF.out.below b)
      replace B : Hid (Below w.heap.size w w16) := B.out.trans (b.mono B.out.size)
      clear b
      have m1 : (bo == bo) = true := by simp
      have m2 : (fr == fr) = true := by simp
      go_wp2
      go_ret
      exact ⟨rfl, B.out⟩
    · have eX : X = growS D := by rw [← HX.out]; unfold growR; rw [HOK.out]; rfl
      have GX : goodS X = true := by
        have h := HOK.out
        unfold growB at h
        rw [Bool.and_eq_true] at h
        rw [eX]; exact h.2
      have HGX := hid GX
      have HSX : Hid (sprRI X = sd) := by show _ = _; unfold sprRI; rw [GX, eX]; exact HGD2.out.grow_spread.trans HD2.out
      have HBX : Hid (bothS D X = true) := by
        show _ = _
        have hl : D.f0.length = X.f0.length := by rw [eX, grow_len]
        unfold bothS
        rw [HGD.out, GX, decide_eq_true hl]; rfl
      have HFX : Hid (frI D X = false) := by show _ = _; unfold frI; rw [eX, HGD2.out.fairer]; simp
      clear eX GX
      obtain ⟨q00, q01⟩ := KT.out.two
      obtain ⟨q10, q11⟩ := KX.out.two
      obtain ⟨q20, q21⟩ := KH.out.two
      go_wp2_with fail
      refine (ifairer_any _ _ D X _ RT.out RX.out false true HFX.out HBX.out).mono ?_
      rintro e w13 ⟨rfl, b⟩
      clear q00 q01 q10 q11 q20 q21
      replace KT := hid (KT.out.below b KT.out.lt)
      replace KX := hid (KX.out.below b KX.out.lt)
      replace KH := hid (KH.out.below b KH.out.lt)
      replace RT := hid (RT.out.below b)
      replace RX := hid (RX.out.below b)
      replace RH := hid (RH.out.below b)
      replace B : Hid (Below w.heap.size w w13) := B.out.trans (b.mono B.out.size)
      clear b
      obtain ⟨q00, q01⟩ := KT.out.two
      obtain ⟨q10, q11⟩ := KX.out.two
      obtain ⟨q20, q21⟩ := KH.out.two
      go_wp2_with fail
      refine (ispread_any _ X _ RX.out sd true HSX.out HGX.out).mono ?_
      rintro e w14 ⟨rfl, b⟩
      clear q00 q01 q10 q11 q20 q21
      replace KT := hid (KT.out.below b KT.out.lt)
      replace KX := hid (KX.out.below b KX.out.lt)
      replace KH := hid (KH.out.below b KH.out.lt)
      replace RT := hid (RT.out.below b)
      replace RX := hid (RX.out.below b)
      replace RH := hid (RH.out.below b)
      replace B : Hid (Below w.heap.size w w14) := B.out.trans (b.mono B.out.size)
      clear b
      have n5 : (sd != sd) = false := by simp
      obtain ⟨q00, q01⟩ := KH.out.two
      go_wp2_with fail
      refine (ispread_any _ Y _ RH.out sy true HSY.out HGY.out).mono ?_
      rintro e w15 ⟨rfl, b⟩
      clear q00 q01
      replace KH := hid (KH.out.below b KH.out.lt)
      replace RH := hid (RH.out.below b)
      replace B : Hid (Below w.heap.size w w15) := B.out.trans (b.mono B.out.size)
      clear b
      go_wp2_with fail
      refine (drawFairer_any _ _ (code_after10s HC1.out B.out)).mono ?_
      rintro e w16 ⟨eu, fu, rfl, E, F, hr, hs, b⟩
      obtain ⟨ea, ek, rfl⟩ := sh_form hr
      obtain ⟨fa, fk, rfl⟩ := sh_form hs
      have RE := hid hr
      have RF := hid hs
      clear hr hs
      replace B : Hid (Below w.heap.size w w16) := B.out.trans (b.mono B.out.size)
      clear b
      have b : Below w16.heap.size w16 (w16.alloc (.cells #[.slice ea E.f0.length ek, .int .i64 E.f1] 25)) := (Below.refl _ _).alloc (Nat.le_refl _) _
      replace RE := hid (RE.out.below b)
      replace RF := hid (RF.out.below b)
      replace B : Hid (Below w.heap.size w (w16.alloc (.cells #[.slice ea E.f0.length ek, .int .i64 E.f1] 25))) := B.out.trans (b.mono B.out.size)
      have KE := hid (boxL_new w16 [.slice ea E.f0.length ek, .int .i64 E.f1] 25)
      clear b
      have b : Below (w16.alloc (.cells #[.slice ea E.f0.length ek, .int .i64 E.f1] 25)).heap.size (w16.alloc (.cells #[.slice ea E.f0.length ek, .int .i64 E.f1] 25)) ((w16.alloc (.cells #[.slice ea E.f0.length ek, .int .i64 E.f1] 25)).alloc (.cells #[.slice fa F.f0.length fk, .int .i64 F.f1] 25)) := (Below.refl _ _).alloc (Nat.le_refl _) _
      replace KE := hid (KE.out.below b KE.out.lt)
      replace RE := hid (RE.out.below b)
      replace RF := hid (RF.out.below b)
      replace B : Hid (Below w.heap.size w ((w16.alloc (.cells #[.slice ea E.f0.length ek, .int .i64 E.f1] 25)).alloc (.cells #[.slice fa F.f0.length fk, .int .i64 F.f1] 25))) := B.out.trans (b.mono B.out.size)
      have KF := hid (boxL_new (w16.alloc (.cells #[.slice ea E.f0.length ek, .int .i64 E.f1] 25)) [.slice fa F.f0.length fk, .int .i64 F.f1] 25)
      clear b
      rw [World.size_alloc] at KF
      obtain ⟨fr, hfr⟩ : ∃ t, frR E F = t := ⟨_, rfl⟩
      obtain ⟨bo, hbo⟩ : ∃ t, bothS E F = t := ⟨_, rfl⟩
      have HFR := hid hfr
      have HFI : Hid (frI E F = fr) := hfr
      have HBO := hid hbo
      clear hfr hbo
      obtain ⟨q00, q01⟩ := KE.out.two
      obtain ⟨q10, q11⟩ := KF.out.two
      go_wp2_with fail
      refine (ifairer_any _ _ E F _ RE.out RF.out fr bo HFI.out HBO.out).mono ?_
      rintro e w17 ⟨rfl, b⟩
      clear q00 q01 q10 q11
      replace KE := hid (KE.out.below b KE.out.lt)
      replace KF := hid (KF.out.below b KF.out.lt)
      replace RE := hid (RE.out.below b)
      replace RF := hid (RF.out.below b)
      replace B : Hid (Below w.heap.size w w17) := B.out.trans (b.mono B.out.size)
      clear b
      obtain ⟨q00, q01⟩ := KE.out.two
      obtain ⟨q10, q11⟩ := KF.out.two
      go_wp2_with fail
      refine (sfairer_any _ _ E F _ RE.out RF.out fr bo HFR.out HBO.out).mono ?_
      rintro e w18 ⟨rfl, b⟩
      clear q00 q01 q10 q11
      replace KE := hid (KE.out.below b KE.out.lt)
      replace KF := hid (KF.out.below b KF.out.lt)
      replace RE := hid (RE.out.below b)
      replace RF := hid (RF.out.below b)
      replace B : Hid (Below w.heap.size w w18) := B.out.trans (b.mono B.out.size)
      clear b
      have m1 : (bo == bo) = true := by simp
      have m2 : (fr == fr) = true := by simp
      go_wp2
      go_ret
      exact ⟨rfl, B.out⟩
end Go.Proofs.Ytepnhbicmlfnhad
