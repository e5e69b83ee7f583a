/-
  spec.RoundOf: one round, told where it is good, in memory of its own. Nothing old is written.
-/
import Derived.Test.YtepnhbicmlfnhadSRound
import Derived.Test.YtepnhbicmlfnhadSGoodSh
namespace Go.Proofs.Ytepnhbicmlfnhad
open Go.RowKit

set_option maxRecDepth 100000 in
set_option maxHeartbeats 8000000 in
theorem sroundOf_any (v : Value) (D : ShD) (w : World) (hr : ShReads w v D) (X : ShD) (h t : Bool) (hX : rndR D = X) (hh : rndH D = h) (ht : rndB D = t) :
    Calls Try.prog 24 #[v] w fun e w' => ∃ u0, e = .returned (.tuple #[u0, .bool h, .bool t]) ∧ ShOwn (Iv w.heap.size w'.heap.size) w' u0 X ∧ Below w.heap.size w w' := by
  have HR := hid hr
  have HX := hid hX
  have HT := hid ht
  have HH := hid hh
  obtain ⟨v0, rfl, r0⟩ := hr
  obtain ⟨a0, p0, rfl, _, _⟩ := r0
  obtain ⟨z, hz⟩ : ∃ z, z = D.f1 := ⟨_, rfl⟩
  rw [← hz] at HR ⊢
  obtain ⟨t1, e1⟩ : ∃ b, goodS D = b := ⟨_, rfl⟩
  have E1 := hid e1
  have P := box_two w (.slice a0 D.f0.length p0) (.int .i64 z) (.slice none 0 0) (.int .i64 0) 25
  obtain ⟨W, hW⟩ : ∃ W, W = (w.alloc (.cells #[.slice a0 D.f0.length p0, .int .i64 z] 25)).alloc (.cells #[.slice none 0 0, .int .i64 0] 25) := ⟨_, rfl⟩
  obtain ⟨q0, q1⟩ := P.1.two
  rw [← hW] at P
  have PA := hid P.1
  have PR := hid P.2.1
  have B := hid P.2.2.1
  have hWs := P.2.2.2
  have HW := hid hW
  clear P hX ht hh hz e1 hW
  go_enter Try.func24, Try.ntmps24
  go_wp2_with fail
  rw [← HW.out]
  clear q0 q1 HW
  refine (sgoodS_eq _ D t1 E1.out _ (HR.out.below B.out)).mono ?_
  rintro e w1 ⟨rfl, b1⟩
  have hs1 := b1.size
  replace B := hid (B.out.trans (b1.mono B.out.size))
  replace PA := hid (PA.out.below b1 PA.out.lt)
  replace PR := hid (PR.out.below b1 PR.out.lt)
  clear b1
  cases t1
  · have HV : Hid (t = false) := by show _ = _; rw [← HT.out]; unfold rndB; rw [E1.out]; rfl
    have HV1 : Hid (h = false) := by show _ = _; rw [← HH.out]; unfold rndH rndB; rw [E1.out]; rfl
    have HV2 : Hid (X = zeroS) := by show _ = _; rw [← HX.out]; unfold rndR rndB; rw [E1.out]; rfl
    obtain ⟨⟨y0, f0⟩, y1, f1⟩ := PR.out.form2
    have LF := sh_leaf PR.out B.out (by omega) (shOwn_zero (Iv (w.heap.size + 2) (w.heap.size + 2)) w1) (by omega) (by omega) (by omega)
    have HO := hid LF.1
    have HB := hid LF.2.1
    obtain ⟨t0, t1⟩ := LF.2.2
    clear LF
    go_wp2
    exact bodyPost_ret (v := .tuple #[.agg #[.slice none 0 0, .int .i64 0], .bool false, .bool false]) (by simp [results, Try.results24, go_sem, t0, t1]) rfl ⟨_, by rw [HV.out, HV1.out], by rw [HV2.out]; exact HO.out, HB.out⟩
  obtain ⟨q0, q1⟩ := PA.out.two
  obtain ⟨h1, eh⟩ : ∃ b, overS D = b := ⟨_, rfl⟩
  have EH := hid eh
  clear eh
  go_wp2_with fail
  refine (sround_any _ D _ (HR.out.below B.out) ((goodS_iff D).1 E1.out) h1 EH.out).mono ?_
  rintro e w2 ⟨u0, rfl, o2, b2⟩
  obtain ⟨a2, n2, k2, rfl⟩ := o2.form
  obtain ⟨z2, hz2⟩ : ∃ z2, z2 = (rndS D).f1 := ⟨_, rfl⟩
  rw [← hz2] at o2 ⊢
  have hs2 := b2.size
  replace B := hid (B.out.trans (b2.mono B.out.size))
  replace PR := hid (PR.out.below b2 PR.out.lt)
  have O := hid o2
  clear b2 q0 q1 PA o2 hz2
  obtain ⟨P5, B5, hs5⟩ := box_next (w := w2) (.slice a2 n2 k2) (.int .i64 z2) 25
  obtain ⟨q0, q1⟩ := P5.two
  obtain ⟨V, hV⟩ : ∃ V, V = w2.alloc (.cells #[.slice a2 n2 k2, .int .i64 z2] 25) := ⟨_, rfl⟩
  rw [← hV] at B5 hs5
  replace B := hid (B.out.trans (B5.mono B.out.size))
  replace PR := hid (PR.out.below B5 PR.out.lt)
  replace O := hid (O.out.below B5)
  have HV0 := hid hV
  clear P5 B5 hV
  obtain ⟨t2, e2⟩ : ∃ b, goodS (rndS D) = b := ⟨_, rfl⟩
  have E2 := hid e2
  clear e2
  go_wp2_with fail
  rw [← HV0.out]
  clear q0 q1 HV0
  refine (stell_any a2 n2 k2 _ (rndS D) _ O.out.reads t2 E2.out).mono ?_
  rintro e w3 ⟨a3, n3, k3, z3, rfl, h3, b3⟩
  have hs3 := b3.size
  replace B := hid (B.out.trans (b3.mono B.out.size))
  replace PR := hid (PR.out.below b3 PR.out.lt)
  replace O := hid (tell_own (O.out.below b3) h3)
  have HV : Hid (t = t2) := by show _ = _; rw [← HT.out]; unfold rndB; rw [E1.out, E2.out]; rfl
  have HV1 : Hid (h = (t2 && h1)) := by show _ = _; rw [← HH.out]; unfold rndH rndB; rw [E1.out, E2.out, EH.out]; rfl
  have HV2 : Hid (X = tellS t2 (rndS D)) := by show _ = _; rw [← HX.out]; unfold rndR rndB; rw [E1.out, E2.out]; rfl
  clear b3 h3
  obtain ⟨P7, B7, hs7⟩ := box_next (w := w3) (.slice a3 n3 k3) (.int .i64 z3) 25
  obtain ⟨q0, q1⟩ := P7.two
  obtain ⟨U, hU⟩ : ∃ U, U = w3.alloc (.cells #[.slice a3 n3 k3, .int .i64 z3] 25) := ⟨_, rfl⟩
  rw [← hU] at B7 hs7
  replace B := hid (B.out.trans (B7.mono B.out.size))
  replace PR := hid (PR.out.below B7 PR.out.lt)
  replace O := hid (O.out.below B7)
  clear P7 B7
  obtain ⟨⟨y0, f0⟩, y1, f1⟩ := PR.out.form2
  cases t2
  · have LF := sh_leaf PR.out B.out (by omega) (shOwn_zero (Iv (w.heap.size + 2) (w.heap.size + 2)) U) (by omega) (by omega) (by omega)
    have HO := hid LF.1
    have HB := hid LF.2.1
    obtain ⟨t0, t1⟩ := LF.2.2
    clear LF O
    rw [hU] at t0 t1 y0 f0 y1 f1
    have HUU := hid hU
    clear hU
    go_wp2
    rw [← HUU.out] at t0 t1 ⊢
    exact bodyPost_ret (v := .tuple #[.agg #[.slice none 0 0, .int .i64 0], .bool false, .bool false]) (by simp [results, Try.results24, go_sem, t0, t1]) rfl ⟨_, by rw [HV.out, HV1.out]; rfl, by rw [HV2.out]; exact HO.out, HB.out⟩
  · have LF := sh_leaf PR.out B.out (by omega) O.out (by omega) (by omega) (by omega)
    have HO := hid LF.1
    have HB := hid LF.2.1
    obtain ⟨t0, t1⟩ := LF.2.2
    clear LF O
    rw [hU] at t0 t1 y0 f0 y1 f1
    have HUU := hid hU
    clear hU
    go_wp2
    rw [← HUU.out] at t0 t1 ⊢
    exact bodyPost_ret (v := .tuple #[.agg #[.slice a3 n3 k3, .int .i64 z3], .bool h1, .bool true]) (by simp [results, Try.results24, go_sem, t0, t1]) rfl ⟨_, by rw [HV.out, HV1.out]; rfl, by rw [HV2.out]; exact HO.out, HB.out⟩
end Go.Proofs.Ytepnhbicmlfnhad
