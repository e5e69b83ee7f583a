/-
  impl.RoundOf: one round, told where it is good, in memory of its own. Nothing old is written.
-/
import Derived.Test.YtepnhbicmlfnhadIGrowFn
import Derived.Test.YtepnhbicmlfnhadIHalveFn
import Derived.Test.YtepnhbicmlfnhadISumA
import Derived.Deep.QuietTactic
import Derived.BigQuiet
namespace Go.Proofs.Ytepnhbicmlfnhad
open Go.RowKit

theorem rnd_more {D : ShD} (h : goodS D = true → overS D = true) : rndR D = halveR D ∧ rndH D = halveB D ∧ rndB D = halveB D := by
  cases hg : goodS D
  · have a : rndB D = false := by unfold rndB; rw [hg]; rfl
    have b : halveB D = false := by unfold halveB; rw [hg]; rfl
    unfold rndR halveR rndH
    rw [a, b]; exact ⟨rfl, rfl, rfl⟩
  · have o := h hg
    have e : rndS D = halveS D := by unfold rndS; rw [o]; rfl
    unfold rndR halveR rndH rndB halveB
    rw [e, o]; exact ⟨rfl, by simp, rfl⟩
theorem rnd_less {D : ShD} (h : goodS D = true → overS D = false) : rndR D = growR D ∧ rndH D = false ∧ rndB D = growB D := by
  cases hg : goodS D
  · have a : rndB D = false := by unfold rndB; rw [hg]; rfl
    have b : growB D = false := by unfold growB; rw [hg]; rfl
    unfold rndR growR rndH
    rw [a, b]; exact ⟨rfl, rfl, rfl⟩
  · have o := h hg
    have e : rndS D = growS D := by unfold rndS; rw [o]; rfl
    unfold rndR growR rndH rndB growB
    rw [e, o]; exact ⟨rfl, by simp, rfl⟩
set_option maxRecDepth 100000 in
set_option maxHeartbeats 8000000 in
theorem iroundOf_any (v : Value) (D : ShD) (w : World) (hr : ShReads w v D) (X : ShD) (h t : Bool) (hX : rndR D = X) (hh : rndH D = h) (ht : rndB D = t) :
    Calls Try.prog 23 #[v] w fun e w' => ∃ u0, e = .returned (.tuple #[u0, .bool h, .bool t]) ∧ ShOwn (Iv w.heap.size w'.heap.size) w' u0 X ∧ Below w.heap.size w w' := by
  have HR := hid hr
  obtain ⟨v0, rfl, r0⟩ := hr
  have HR0 := hid r0
  obtain ⟨a0, p0, rfl, _, _⟩ := r0
  obtain ⟨z, hz⟩ : ∃ z, z = D.f1 := ⟨_, rfl⟩
  rw [← hz] at HR ⊢
  obtain ⟨s, hs⟩ : ∃ s, wsum D.f0 D.f0.length = s := ⟨_, rfl⟩
  have HS := hid hs
  obtain ⟨o, ho⟩ : ∃ o, decide (z < s) = o := ⟨_, rfl⟩
  have HO1 : Hid (goodS D = true → overS D = o) := fun hg => by
    have G := (goodS_iff D).1 hg
    have e : s = sumW D := by rw [← hs]; exact wsum_is _ fun j hj => by have := G.psums j hj; omega
    unfold overS
    rw [← hz, ← e]; exact ho
  have P := box_two w (.slice a0 D.f0.length p0) (.int .i64 z) (.slice none 0 0) (.int .i64 0) 25
  obtain ⟨W, hW⟩ : ∃ W, W = (w.alloc (.cells #[.slice a0 D.f0.length p0, .int .i64 z] 25)).alloc (.cells #[.slice none 0 0, .int .i64 0] 25) := ⟨_, rfl⟩
  rw [← hW] at P
  have PA := hid P.1
  have PR := hid P.2.1
  have B := hid P.2.2.1
  have hWs := P.2.2.2
  have HW := hid hW
  have HX := hid hX
  have HH := hid hh
  have HT := hid ht
  clear P hz hs ht hX hh hW
  go_enter Try.func23, Try.ntmps23
  go_wp2_with fail
  rw [← HW.out]
  clear HW
  obtain ⟨q0, q1⟩ := PA.out.two
  have HRW := hid (HR0.out.below B.out)
  have HRN : Hid (∀ n, KReads (W.drewN n) (.slice a0 D.f0.length p0) D.f0) := fun n => HRW.out
  have HSN : Hid (∀ n, Calls Try.prog 33 #[.slice a0 D.f0.length p0] (W.drewN n) fun e w' => e = .returned (.int .i64 s) ∧ w' = W.drewN n) := fun n => isumA_eq (.slice a0 D.f0.length p0) D.f0 _ (HRN.out n) s HS.out
  cases o
  · go_quiet (exact Calls.quiet_of_same (HSN.out _))
    obtain ⟨W1, hW1⟩ : ∃ W1, W1 = W.drewN nq := ⟨_, rfl⟩
    replace PA : Hid (BoxL W1 w.heap.size [.slice a0 D.f0.length p0, .int .i64 z]) := by rw [hW1]; exact PA.out
    replace PR : Hid (BoxL W1 (w.heap.size + 1) [.slice none 0 0, .int .i64 0]) := by rw [hW1]; exact PR.out
    replace B : Hid (Below w.heap.size w W1) := by rw [hW1]; exact below_dN B.out _
    have hs1 : W1.heap.size = w.heap.size + 2 := by rw [hW1]; exact hWs
    rw [← hW1]
    clear hW1 q0 q1
    obtain ⟨q0, q1⟩ := PA.out.two
    obtain ⟨r1, r2, r3⟩ := rnd_less HO1.out
    have HX2 : Hid (growR D = X) := r1.symm.trans HX.out
    have HT2 : Hid (growB D = t) := r3.symm.trans HT.out
    have HH2 : Hid (h = false) := HH.out.symm.trans r2
    clear r1 r2 r3
    go_wp2_with fail
    refine (igrowAll_any _ D _ (HR.out.below B.out) X t HX2.out HT2.out).mono ?_
    rintro e w2 ⟨u0, rfl, o2, b2⟩
    obtain ⟨a2, n2, k2, rfl⟩ := o2.form
    obtain ⟨z2, hz2⟩ : ∃ z2, z2 = X.f1 := ⟨_, rfl⟩
    rw [← hz2] at o2 ⊢
    have hs2 := b2.size
    replace B := hid (B.out.trans (b2.mono B.out.size))
    replace PR := hid (PR.out.below b2 PR.out.lt)
    obtain ⟨P9, B9, hs9⟩ := box_next (w := w2) (.slice a2 n2 k2) (.int .i64 z2) 25
    obtain ⟨U, hU⟩ : ∃ U, U = w2.alloc (.cells #[.slice a2 n2 k2, .int .i64 z2] 25) := ⟨_, rfl⟩
    rw [← hU] at P9 B9 hs9
    replace B := hid (B.out.trans (B9.mono B.out.size))
    replace PR := hid (PR.out.below B9 PR.out.lt)
    have LF := sh_leaf PR.out B.out (by omega) (o2.below B9) (by omega) (by omega) (by omega)
    have HO := hid LF.1
    have HB := hid LF.2.1
    clear q0 q1
    obtain ⟨t0, t1⟩ := LF.2.2
    obtain ⟨⟨y0, f0⟩, y1, f1⟩ := PR.out.form2
    obtain ⟨q0, q1⟩ := P9.two
    rw [hU] at t0 t1 y0 f0 y1 f1 q0 q1
    have HU := hid hU
    clear LF b2 PA o2 hz2 P9 B9 hU
    go_wp2
    rw [← HU.out] at t0 t1 ⊢
    exact bodyPost_ret (v := .tuple #[.agg #[.slice a2 n2 k2, .int .i64 z2], .bool false, .bool t]) (by simp [results, Try.results23, go_sem, t0, t1]) rfl ⟨_, by rw [HH2.out], HO.out, HB.out⟩
  · go_quiet (exact Calls.quiet_of_same (HSN.out _))
    obtain ⟨W1, hW1⟩ : ∃ W1, W1 = W.drewN nq := ⟨_, rfl⟩
    replace PA : Hid (BoxL W1 w.heap.size [.slice a0 D.f0.length p0, .int .i64 z]) := by rw [hW1]; exact PA.out
    replace PR : Hid (BoxL W1 (w.heap.size + 1) [.slice none 0 0, .int .i64 0]) := by rw [hW1]; exact PR.out
    replace B : Hid (Below w.heap.size w W1) := by rw [hW1]; exact below_dN B.out _
    have hs1 : W1.heap.size = w.heap.size + 2 := by rw [hW1]; exact hWs
    rw [← hW1]
    clear hW1 q0 q1
    obtain ⟨q0, q1⟩ := PA.out.two
    obtain ⟨r1, r2, r3⟩ := rnd_more HO1.out
    have HX2 : Hid (halveR D = X) := r1.symm.trans HX.out
    have HT2 : Hid (halveB D = t) := r3.symm.trans HT.out
    have HH2 : Hid (h = t) := HH.out.symm.trans (r2.trans HT2.out)
    clear r1 r2 r3
    go_wp2_with fail
    refine (ihalveAll_any _ D _ (HR.out.below B.out) X t HX2.out HT2.out).mono ?_
    rintro e w2 ⟨u0, rfl, o2, b2⟩
    obtain ⟨a2, n2, k2, rfl⟩ := o2.form
    obtain ⟨z2, hz2⟩ : ∃ z2, z2 = X.f1 := ⟨_, rfl⟩
    rw [← hz2] at o2 ⊢
    have hs2 := b2.size
    replace B := hid (B.out.trans (b2.mono B.out.size))
    replace PR := hid (PR.out.below b2 PR.out.lt)
    obtain ⟨P9, B9, hs9⟩ := box_next (w := w2) (.slice a2 n2 k2) (.int .i64 z2) 25
    obtain ⟨U, hU⟩ : ∃ U, U = w2.alloc (.cells #[.slice a2 n2 k2, .int .i64 z2] 25) := ⟨_, rfl⟩
    rw [← hU] at P9 B9 hs9
    replace B := hid (B.out.trans (B9.mono B.out.size))
    replace PR := hid (PR.out.below B9 PR.out.lt)
    have LF := sh_leaf PR.out B.out (by omega) (o2.below B9) (by omega) (by omega) (by omega)
    have HO := hid LF.1
    have HB := hid LF.2.1
    clear q0 q1
    obtain ⟨t0, t1⟩ := LF.2.2
    obtain ⟨⟨y0, f0⟩, y1, f1⟩ := PR.out.form2
    obtain ⟨q0, q1⟩ := P9.two
    rw [hU] at t0 t1 y0 f0 y1 f1 q0 q1
    have HU := hid hU
    clear LF b2 PA o2 hz2 P9 B9 hU
    go_wp2
    rw [← HU.out] at t0 t1 ⊢
    exact bodyPost_ret (v := .tuple #[.agg #[.slice a2 n2 k2, .int .i64 z2], .bool t, .bool t]) (by simp [results, Try.results23, go_sem, t0, t1]) rfl ⟨_, by rw [HH2.out], HO.out, HB.out⟩
end Go.Proofs.Ytepnhbicmlfnhad
