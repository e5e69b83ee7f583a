/-
  spec.HalveAll: told where it is good, in memory of its own. Nothing old is written.
-/
import Derived.Test.YtepnhbicmlfnhadSHalve
import Derived.Test.YtepnhbicmlfnhadSGoodSh
import Derived.Test.YtepnhbicmlfnhadShFns
namespace Go.Proofs.Ytepnhbicmlfnhad
open Go.RowKit

set_option maxRecDepth 100000 in
set_option maxHeartbeats 8000000 in
theorem shalveAll_any (v : Value) (D : ShD) (w : World) (hr : ShReads w v D) (X : ShD) (t : Bool) (hX : halveR D = X) (ht : halveB D = t) :
    Calls Try.prog 13 #[v] w fun e w' => ∃ u0, e = .returned (.tuple #[u0, .bool t]) ∧ ShOwn (Iv w.heap.size w'.heap.size) w' u0 X ∧ Below w.heap.size w w' := by
  have HR := hid hr
  have HX := hid hX
  have HT := hid ht
  obtain ⟨v0, rfl, r0⟩ := hr
  obtain ⟨a0, p0, rfl, _, _⟩ := r0
  obtain ⟨z, hz⟩ : ∃ z, z = D.f1 := ⟨_, rfl⟩
  rw [← hz] at HR ⊢
  obtain ⟨t1, e1⟩ : ∃ b, goodS D = b := ⟨_, rfl⟩
  have E1 := hid e1
  have P := box_two w (.slice a0 D.f0.length p0) (.int .i64 z) (.slice none 0 0) (.int .i64 0) 25
  obtain ⟨W, hW⟩ : ∃ W, W = (w.alloc (.cells #[.slice a0 D.f0.length p0, .int .i64 z] 25)).alloc (.cells #[.slice none 0 0, .int .i64 0] 25) := ⟨_, rfl⟩
  obtain ⟨q0, q1⟩ := P.1.two
  rw [← hW] at P
  have PA := hid P.1
  have PR := hid P.2.1
  have B := hid P.2.2.1
  have hWs := P.2.2.2
  have HW := hid hW
  clear P hX ht hz e1 hW
  go_enter Try.func13, Try.ntmps13
  go_wp2_with fail
  rw [← HW.out]
  clear q0 q1 HW
  refine (sgoodS_eq _ D t1 E1.out _ (HR.out.below B.out)).mono ?_
  rintro e w1 ⟨rfl, b1⟩
  have hs1 := b1.size
  replace B := hid (B.out.trans (b1.mono B.out.size))
  replace PA := hid (PA.out.below b1 PA.out.lt)
  replace PR := hid (PR.out.below b1 PR.out.lt)
  clear b1
  cases t1
  · have HV : Hid (t = false) := by show _ = _; rw [← HT.out]; unfold halveB; rw [E1.out]; rfl
    have HV2 : Hid (X = zeroS) := by show _ = _; rw [← HX.out]; unfold halveR halveB; rw [E1.out]; rfl
    obtain ⟨⟨y0, f0⟩, y1, f1⟩ := PR.out.form2
    have LF := sh_leaf PR.out B.out (by omega) (shOwn_zero (Iv (w.heap.size + 2) (w.heap.size + 2)) w1) (by omega) (by omega) (by omega)
    have HO := hid LF.1
    have HB := hid LF.2.1
    obtain ⟨t0, t1⟩ := LF.2.2
    clear LF
    go_wp2
    exact bodyPost_ret (v := .tuple #[.agg #[.slice none 0 0, .int .i64 0], .bool false]) (by simp [results, Try.results13, go_sem, t0, t1]) rfl ⟨_, by rw [HV.out], by rw [HV2.out]; exact HO.out, HB.out⟩
  obtain ⟨q0, q1⟩ := PA.out.two
  go_wp2_with fail
  refine (shalve_any _ D _ (HR.out.below B.out) ((goodS_iff D).1 E1.out)).mono ?_
  rintro e w2 ⟨u0, rfl, o2, b2⟩
  obtain ⟨a2, n2, k2, rfl⟩ := o2.form
  have hs2 := b2.size
  replace B := hid (B.out.trans (b2.mono B.out.size))
  replace PR := hid (PR.out.below b2 PR.out.lt)
  have O := hid o2
  clear b2 q0 q1 PA o2
  obtain ⟨t2, e2⟩ : ∃ b, goodS (halveS D) = b := ⟨_, rfl⟩
  have E2 := hid e2
  clear e2
  go_wp2_with fail
  refine (stell_any a2 n2 k2 _ (halveS D) _ O.out.reads t2 E2.out).mono ?_
  rintro e w3 ⟨a3, n3, k3, z3, rfl, h3, b3⟩
  have hs3 := b3.size
  replace B := hid (B.out.trans (b3.mono B.out.size))
  replace PR := hid (PR.out.below b3 PR.out.lt)
  replace O := hid (tell_own (O.out.below b3) h3)
  have HV : Hid (t = t2) := by show _ = _; rw [← HT.out]; unfold halveB; rw [E1.out, E2.out]; rfl
  have HV2 : Hid (X = tellS t2 (halveS D)) := by show _ = _; rw [← HX.out]; unfold halveR halveB; rw [E1.out, E2.out]; rfl
  clear b3 h3
  obtain ⟨⟨y0, f0⟩, y1, f1⟩ := PR.out.form2
  have LF := sh_leaf PR.out B.out (by omega) O.out (by omega) (by omega) (by omega)
  have HO := hid LF.1
  have HB := hid LF.2.1
  obtain ⟨t0, t1⟩ := LF.2.2
  clear LF O
  go_wp2
  exact bodyPost_ret (v := .tuple #[.agg #[.slice a3 n3 k3, .int .i64 z3], .bool t2]) (by simp [results, Try.results13, go_sem, t0, t1]) rfl ⟨_, by rw [HV.out], by rw [HV2.out]; exact HO.out, HB.out⟩
end Go.Proofs.Ytepnhbicmlfnhad
