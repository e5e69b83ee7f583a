/-
  spec.l10Round: one round of good shares, in memory of its own. Nothing old is written.
-/
import Derived.Test.YtepnhbicmlfnhadSGrow
import Derived.Test.YtepnhbicmlfnhadSHalve
import Derived.Test.YtepnhbicmlfnhadFlowFns
import Derived.Test.YtepnhbicmlfnhadShFns
import Derived.Deep.QuietTactic
import Derived.BigQuiet
namespace Go.Proofs.Ytepnhbicmlfnhad
open Go.RowKit

set_option maxRecDepth 100000 in
set_option maxHeartbeats 8000000 in
theorem sround_any (v : Value) (D : ShD) (w : World) (hr : ShReads w v D) (hg : GoodS D) (t : Bool) (ht : overS D = t) :
    Calls Try.prog 50 #[v] w fun e w' => ∃ u0, e = .returned (.tuple #[u0, .bool t]) ∧ ShOwn (Iv w.heap.size w'.heap.size) w' u0 (rndS D) ∧ Below w.heap.size w w' := by
  have HR := hid hr
  have HG := hid hg
  have HT := hid ht
  obtain ⟨v0, rfl, r0⟩ := hr
  have HR0 := hid r0
  obtain ⟨a0, p0, rfl, _, _⟩ := r0
  obtain ⟨z, hz⟩ : ∃ z, z = D.f1 := ⟨_, rfl⟩
  rw [← hz] at HR ⊢
  obtain ⟨s, hs⟩ : ∃ s, sumW D = s := ⟨_, rfl⟩
  have HS : Hid (psum (fl D.f0) D.f0.length = s) := hs
  have hd : decide (z < s) = t := by rw [← ht, hz, ← hs]; rfl
  have P := box_two w (.slice a0 D.f0.length p0) (.int .i64 z) (.slice none 0 0) (.int .i64 0) 25
  obtain ⟨W, hW⟩ : ∃ W, W = (w.alloc (.cells #[.slice a0 D.f0.length p0, .int .i64 z] 25)).alloc (.cells #[.slice none 0 0, .int .i64 0] 25) := ⟨_, rfl⟩
  have QQ := hid P.1.two
  rw [← hW] at P
  have PA := hid P.1
  have PR := hid P.2.1
  have B := hid P.2.2.1
  have hWs := P.2.2.2
  have HW := hid hW
  clear P hz hs ht hg hW
  go_enter Try.func50, Try.ntmps50
  go_wp2_with fail
  rw [← HW.out]
  clear QQ HW
  obtain ⟨q0, q1⟩ := PA.out.two
  have HRW := hid (HR0.out.below B.out)
  have HRN : Hid (∀ n, KReads (W.drewN n) (.slice a0 D.f0.length p0) D.f0) := fun n => HRW.out
  have HSN : Hid (∀ n, Calls Try.prog 54 #[.slice a0 D.f0.length p0] (W.drewN n) fun e w' => e = .returned (.int .i64 s) ∧ w' = W.drewN n) := fun n => l1Sum_eq (.slice a0 D.f0.length p0) D.f0 _ (HRN.out n) (fun k hk => by have := HG.out.psums k hk; omega) s HS.out
  cases t
  · go_quiet (exact Calls.quiet_of_same (HSN.out _))
    obtain ⟨W1, hW1⟩ : ∃ W1, W1 = W.drewN nq := ⟨_, rfl⟩
    replace PA : Hid (BoxL W1 w.heap.size [.slice a0 D.f0.length p0, .int .i64 z]) := by rw [hW1]; exact PA.out
    replace PR : Hid (BoxL W1 (w.heap.size + 1) [.slice none 0 0, .int .i64 0]) := by rw [hW1]; exact PR.out
    replace B : Hid (Below w.heap.size w W1) := by rw [hW1]; exact below_dN B.out _
    have hs1 : W1.heap.size = w.heap.size + 2 := by rw [hW1]; exact hWs
    rw [← hW1]
    clear hW1 q0 q1
    obtain ⟨q0, q1⟩ := PA.out.two
    go_wp2_with fail
    refine (sgrow_any _ D _ (HR.out.below B.out) HG.out).mono ?_
    rintro e w2 ⟨u0, rfl, o2, b2⟩
    obtain ⟨a2, n2, k2, rfl⟩ := o2.form
    have hs2 := b2.size
    replace B := hid (B.out.trans (b2.mono B.out.size))
    replace PR := hid (PR.out.below b2 PR.out.lt)
    have O : Hid (ShOwn (Iv W1.heap.size w2.heap.size) w2 (.agg #[.slice a2 n2 k2, .int .i64 (growS D).f1]) (rndS D)) := by
      have e : rndS D = growS D := by unfold rndS; rw [HT.out]; rfl
      rw [e]; exact o2
    clear b2 q0 q1 PA o2
    obtain ⟨⟨y0, f0⟩, y1, f1⟩ := PR.out.form2
    have LF := sh_leaf PR.out B.out (by omega) O.out (by omega) (Nat.le_refl _) (by omega)
    have HO := hid LF.1
    have HB := hid LF.2.1
    obtain ⟨t0, t1⟩ := LF.2.2
    clear LF O
    go_wp2
    exact bodyPost_ret (v := .tuple #[.agg #[.slice a2 n2 k2, .int .i64 (growS D).f1], .bool false]) (by simp [results, Try.results50, go_sem, t0, t1]) rfl ⟨_, rfl, HO.out, HB.out⟩
  · go_quiet (exact Calls.quiet_of_same (HSN.out _))
    obtain ⟨W1, hW1⟩ : ∃ W1, W1 = W.drewN nq := ⟨_, rfl⟩
    replace PA : Hid (BoxL W1 w.heap.size [.slice a0 D.f0.length p0, .int .i64 z]) := by rw [hW1]; exact PA.out
    replace PR : Hid (BoxL W1 (w.heap.size + 1) [.slice none 0 0, .int .i64 0]) := by rw [hW1]; exact PR.out
    replace B : Hid (Below w.heap.size w W1) := by rw [hW1]; exact below_dN B.out _
    have hs1 : W1.heap.size = w.heap.size + 2 := by rw [hW1]; exact hWs
    rw [← hW1]
    clear hW1 q0 q1
    obtain ⟨q0, q1⟩ := PA.out.two
    go_wp2_with fail
    refine (shalve_any _ D _ (HR.out.below B.out) HG.out).mono ?_
    rintro e w2 ⟨u0, rfl, o2, b2⟩
    obtain ⟨a2, n2, k2, rfl⟩ := o2.form
    have hs2 := b2.size
    replace B := hid (B.out.trans (b2.mono B.out.size))
    replace PR := hid (PR.out.below b2 PR.out.lt)
    have O : Hid (ShOwn (Iv W1.heap.size w2.heap.size) w2 (.agg #[.slice a2 n2 k2, .int .i64 (halveS D).f1]) (rndS D)) := by
      have e : rndS D = halveS D := by unfold rndS; rw [HT.out]; rfl
      rw [e]; exact o2
    clear b2 q0 q1 PA o2
    obtain ⟨⟨y0, f0⟩, y1, f1⟩ := PR.out.form2
    have LF := sh_leaf PR.out B.out (by omega) O.out (by omega) (Nat.le_refl _) (by omega)
    have HO := hid LF.1
    have HB := hid LF.2.1
    obtain ⟨t0, t1⟩ := LF.2.2
    clear LF O
    go_wp2
    exact bodyPost_ret (v := .tuple #[.agg #[.slice a2 n2 k2, .int .i64 (halveS D).f1], .bool true]) (by simp [results, Try.results50, go_sem, t0, t1]) rfl ⟨_, rfl, HO.out, HB.out⟩
end Go.Proofs.Ytepnhbicmlfnhad
