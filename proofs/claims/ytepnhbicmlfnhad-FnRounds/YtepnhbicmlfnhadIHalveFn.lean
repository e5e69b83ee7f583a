/-
  impl.changedIfGood with (impl.Shares).halved, impl.HalveAll: told where it is good, in memory of its own. Nothing old is written.
-/
import Derived.Test.YtepnhbicmlfnhadIHalved
import Derived.Test.YtepnhbicmlfnhadIGoodSh
import Derived.Test.YtepnhbicmlfnhadShFns
namespace Go.Proofs.Ytepnhbicmlfnhad
open Go.RowKit

set_option maxRecDepth 100000 in
set_option maxHeartbeats 8000000 in
theorem ichg_halve (v : Value) (D : ShD) (w : World) (hr : ShReads w v D) (X : ShD) (t : Bool) (hX : halveR D = X) (ht : halveB D = t) :
    Calls Try.prog 27 #[v, .func (.func 15) #[] #[], .func (.func 39) #[] #[]] w fun e w' => ∃ u0, e = .returned (.tuple #[u0, .bool t]) ∧ ShOwn (Iv w.heap.size w'.heap.size) w' u0 X ∧ Below w.heap.size w w' := by
  have HR := hid hr
  have HX := hid hX
  have HT := hid ht
  obtain ⟨v0, rfl, r0⟩ := hr
  obtain ⟨a0, p0, rfl, _, _⟩ := r0
  obtain ⟨z, hz⟩ : ∃ z, z = D.f1 := ⟨_, rfl⟩
  rw [← hz] at HR ⊢
  obtain ⟨t1, e1⟩ : ∃ b, goodS D = b := ⟨_, rfl⟩
  have E1 := hid e1
  have P := box_two w (.slice a0 D.f0.length p0) (.int .i64 z) (.slice none 0 0) (.int .i64 0) 25
  obtain ⟨W, hW⟩ : ∃ W, W = (w.alloc (.cells #[.slice a0 D.f0.length p0, .int .i64 z] 25)).alloc (.cells #[.slice none 0 0, .int .i64 0] 25) := ⟨_, rfl⟩
  obtain ⟨q0, q1⟩ := P.1.two
  rw [← hW] at P
  have PA := hid P.1
  have PR := hid P.2.1
  have B := hid P.2.2.1
  have hWs := P.2.2.2
  have HW := hid hW
  clear P hX ht hz e1 hW
  obtain ⟨P8, B8, hs8⟩ := box_next (w := W) (.slice none 0 0) (.int .i64 0) 25
  rw [hWs] at P8 hs8
  obtain ⟨V, hV⟩ : ∃ V, V = W.alloc (.cells #[.slice none 0 0, .int .i64 0] 25) := ⟨_, rfl⟩
  rw [← hV] at P8 B8 hs8
  replace PA := hid (PA.out.below B8 PA.out.lt)
  replace PR := hid (PR.out.below B8 PR.out.lt)
  replace B := hid (B.out.trans (B8.mono B.out.size))
  have P8 := hid P8
  rw [HW.out] at hV
  have HV0 := hid hV
  clear HW B8 hV q0 q1
  obtain ⟨q0, q1⟩ := PA.out.two
  rw [HV0.out] at q0 q1
  go_enter Try.func27, Try.ntmps27
  go_wp2_with fail
  rw [← HV0.out]
  clear q0 q1 HV0
  refine (igoodS_eq _ D t1 E1.out _ (HR.out.below B.out)).mono ?_
  rintro e w1 ⟨rfl, b1⟩
  have hs1 := b1.size
  replace B := hid (B.out.trans (b1.mono B.out.size))
  replace PA := hid (PA.out.below b1 PA.out.lt)
  replace PR := hid (PR.out.below b1 PR.out.lt)
  replace P8 := hid (P8.out.below b1 P8.out.lt)
  clear b1
  cases t1
  · have HV : Hid (t = false) := by show _ = _; rw [← HT.out]; unfold halveB; rw [E1.out]; rfl
    have HV2 : Hid (X = zeroS) := by show _ = _; rw [← HX.out]; unfold halveR halveB; rw [E1.out]; rfl
    obtain ⟨⟨y0, f0⟩, y1, f1⟩ := PR.out.form2
    obtain ⟨q0, q1⟩ := P8.out.two
    have LF := sh_leaf PR.out B.out (by omega) (shOwn_zero (Iv (w.heap.size + 2) (w.heap.size + 2)) w1) (by omega) (by omega) (by omega)
    have HO := hid LF.1
    have HB := hid LF.2.1
    obtain ⟨t0, t1⟩ := LF.2.2
    clear LF
    go_wp2
    exact bodyPost_ret (v := .tuple #[.agg #[.slice none 0 0, .int .i64 0], .bool false]) (by simp [results, Try.results27, go_sem, t0, t1]) rfl ⟨_, by rw [HV.out], by rw [HV2.out]; exact HO.out, HB.out⟩
  obtain ⟨q0, q1⟩ := PA.out.two
  go_wp2_with fail
  refine (ihalven_any _ D _ (HR.out.below B.out) ((goodS_iff D).1 E1.out)).mono ?_
  rintro e w2 ⟨u0, rfl, o2, b2⟩
  obtain ⟨a2, n2, k2, rfl⟩ := o2.form
  obtain ⟨z2, hz2⟩ : ∃ z2, z2 = (halveS D).f1 := ⟨_, rfl⟩
  rw [← hz2] at o2 ⊢
  have hs2 := b2.size
  replace B := hid (B.out.trans (b2.mono B.out.size))
  replace PR := hid (PR.out.below b2 PR.out.lt)
  replace P8 := hid (P8.out.below b2 P8.out.lt)
  have O := hid o2
  clear b2 q0 q1 PA o2 hz2
  obtain ⟨P9, B9, hs9⟩ := box_next (w := w2) (.slice a2 n2 k2) (.int .i64 z2) 25
  obtain ⟨q0, q1⟩ := P9.two
  obtain ⟨U, hU⟩ : ∃ U, U = w2.alloc (.cells #[.slice a2 n2 k2, .int .i64 z2] 25) := ⟨_, rfl⟩
  rw [← hU] at P9 B9 hs9
  replace B := hid (B.out.trans (B9.mono B.out.size))
  replace PR := hid (PR.out.below B9 PR.out.lt)
  replace P8 := hid (P8.out.below B9 P8.out.lt)
  replace O := hid (O.out.below B9)
  have P9 := hid P9
  have HU := hid hU
  clear B9 hU
  obtain ⟨t2, e2⟩ : ∃ b, goodS (halveS D) = b := ⟨_, rfl⟩
  have E2 := hid e2
  clear e2
  go_wp2_with fail
  rw [← HU.out]
  clear q0 q1 HU
  refine (igoodS_eq _ (halveS D) t2 E2.out _ O.out.reads).mono ?_
  rintro e w3 ⟨rfl, b3⟩
  have hs3 := b3.size
  replace B := hid (B.out.trans (b3.mono B.out.size))
  replace PR := hid (PR.out.below b3 PR.out.lt)
  replace P8 := hid (P8.out.below b3 P8.out.lt)
  replace P9 := hid (P9.out.below b3 P9.out.lt)
  replace O := hid (O.out.below b3)
  have HV : Hid (t = t2) := by show _ = _; rw [← HT.out]; unfold halveB; rw [E1.out, E2.out]; rfl
  have HV2 : Hid (X = tellS t2 (halveS D)) := by show _ = _; rw [← HX.out]; unfold halveR halveB; rw [E1.out, E2.out]; rfl
  clear b3
  obtain ⟨⟨y0, f0⟩, y1, f1⟩ := PR.out.form2
  cases t2
  · obtain ⟨q0, q1⟩ := P8.out.two
    have LF := sh_leaf PR.out B.out (by omega) (shOwn_zero (Iv (w.heap.size + 2) (w.heap.size + 2)) w3) (by omega) (by omega) (by omega)
    have HO := hid LF.1
    have HB := hid LF.2.1
    obtain ⟨t0, t1⟩ := LF.2.2
    clear LF O P9
    go_wp2
    exact bodyPost_ret (v := .tuple #[.agg #[.slice none 0 0, .int .i64 0], .bool false]) (by simp [results, Try.results27, go_sem, t0, t1]) rfl ⟨_, by rw [HV.out], by rw [HV2.out]; exact HO.out, HB.out⟩
  · obtain ⟨q0, q1⟩ := P9.out.two
    have LF := sh_leaf PR.out B.out (by omega) O.out (by omega) (by omega) (by omega)
    have HO := hid LF.1
    have HB := hid LF.2.1
    obtain ⟨t0, t1⟩ := LF.2.2
    clear LF O P8
    go_wp2
    exact bodyPost_ret (v := .tuple #[.agg #[.slice a2 n2 k2, .int .i64 z2], .bool true]) (by simp [results, Try.results27, go_sem, t0, t1]) rfl ⟨_, by rw [HV.out], by rw [HV2.out]; exact HO.out, HB.out⟩
set_option maxRecDepth 100000 in
set_option maxHeartbeats 8000000 in
theorem ihalveAll_any (v : Value) (D : ShD) (w : World) (hr : ShReads w v D) (X : ShD) (t : Bool) (hX : halveR D = X) (ht : halveB D = t) :
    Calls Try.prog 12 #[v] w fun e w' => ∃ u0, e = .returned (.tuple #[u0, .bool t]) ∧ ShOwn (Iv w.heap.size w'.heap.size) w' u0 X ∧ Below w.heap.size w w' := by
  have HR := hid hr
  have HX := hid hX
  have HT := hid ht
  obtain ⟨v0, rfl, r0⟩ := hr
  obtain ⟨a0, p0, rfl, _, _⟩ := r0
  obtain ⟨z, hz⟩ : ∃ z, z = D.f1 := ⟨_, rfl⟩
  rw [← hz] at HR ⊢
  have P := box_two w (.slice a0 D.f0.length p0) (.int .i64 z) (.slice none 0 0) (.int .i64 0) 25
  obtain ⟨W, hW⟩ : ∃ W, W = (w.alloc (.cells #[.slice a0 D.f0.length p0, .int .i64 z] 25)).alloc (.cells #[.slice none 0 0, .int .i64 0] 25) := ⟨_, rfl⟩
  obtain ⟨q0, q1⟩ := P.1.two
  rw [← hW] at P
  have PA := hid P.1
  have PR := hid P.2.1
  have B := hid P.2.2.1
  have hWs := P.2.2.2
  have HW := hid hW
  clear P hX ht hz hW
  go_enter Try.func12, Try.ntmps12
  go_wp2_with fail
  rw [← HW.out]
  clear q0 q1 HW
  refine (ichg_halve _ D _ (HR.out.below B.out) X t HX.out HT.out).mono ?_
  rintro e w2 ⟨u0, rfl, o2, b2⟩
  obtain ⟨a2, n2, k2, rfl⟩ := o2.form
  obtain ⟨z2, hz2⟩ : ∃ z2, z2 = X.f1 := ⟨_, rfl⟩
  rw [← hz2] at o2 ⊢
  have hs2 := b2.size
  replace B := hid (B.out.trans (b2.mono B.out.size))
  replace PR := hid (PR.out.below b2 PR.out.lt)
  have LF := sh_leaf PR.out B.out (by omega) o2 (by omega) (by omega) (by omega)
  have HO := hid LF.1
  have HB := hid LF.2.1
  obtain ⟨t0, t1⟩ := LF.2.2
  obtain ⟨⟨y0, f0⟩, y1, f1⟩ := PR.out.form2
  clear LF b2 PA o2 hz2
  go_wp2
  exact bodyPost_ret (v := .tuple #[.agg #[.slice a2 n2 k2, .int .i64 z2], .bool t]) (by simp [results, Try.results12, go_sem, t0, t1]) rfl ⟨_, rfl, HO.out, HB.out⟩
end Go.Proofs.Ytepnhbicmlfnhad
