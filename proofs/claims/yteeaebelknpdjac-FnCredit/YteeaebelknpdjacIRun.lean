/-
  impl.RunTurns: so many turns, on turns of their own. Nothing old is written.
-/
import Derived.Test.YteeaebelknpdjacITurn
import Derived.Test.YteeaebelknpdjacILikeT
import Derived.Test.YteeaebelknpdjacIGoodT
import Derived.Test.YteeaebelknpdjacKOwnS
namespace Go.Proofs.Yteeaebelknpdjac
open Go.RowKit

set_option maxRecDepth 100000 in
set_option maxHeartbeats 16000000 in
theorem irun_any (v : Value) (D : TuD) (m : Nat) (w : World) (hr : TuReads w v D) (h : goodTu D = true) (hm : m ≤ 60) (b : Bool) (hb : runOkB D m = b) (R0 : TuD) (h1 : b = true → R0 = runD D m) (h2 : b = false → R0 = noT) :
    Calls Try.prog 49 #[v, .int .i64 (m : Int)] w fun e w' => ∃ u0, e = .returned (.tuple #[u0, .bool b]) ∧ TuOwn (Iv w.heap.size w'.heap.size) w' u0 R0 ∧ Below w.heap.size w w' := by
  have HT := hid h
  have HG := hid (goodT_of h)
  have HOK := hid hb
  have HR1 := hid h1
  have HR2 := hid h2
  clear h hb h1 h2
  have HR := hid hr
  obtain ⟨v0, v1, v2, v3, rfl, r0, r1, r2, r3⟩ := hr
  obtain ⟨a0, p0, rfl, _, _⟩ := r0
  obtain ⟨a1, p1, rfl, _, _⟩ := r1
  obtain ⟨a2, p2, rfl, _, _⟩ := r2
  obtain ⟨a3, p3, rfl, _, _⟩ := r3
  obtain ⟨z, hz⟩ : ∃ z, z = D.f4 := ⟨_, rfl⟩
  have HZ := hid hz
  rw [← hz] at HR ⊢
  clear hz
  have PA := hid (boxL_new w [.slice a0 D.f0.length p0, .slice a1 D.f1.length p1, .slice a2 D.f2.length p2, .slice a3 D.f3.length p3, .int .i64 z] 55)
  have PR := hid (boxL_new (w.alloc (.cells #[.slice a0 D.f0.length p0, .slice a1 D.f1.length p1, .slice a2 D.f2.length p2, .slice a3 D.f3.length p3, .int .i64 z] 55)) [.slice none 0 0, .slice none 0 0, .slice none 0 0, .slice none 0 0, .int .i64 0] 55)
  replace PA := hid (PA.out.below ((Below.refl _ _).alloc (Nat.le_refl _) (.cells #[.slice none 0 0, .slice none 0 0, .slice none 0 0, .slice none 0 0, .int .i64 0] 55)) PA.out.lt)
  rw [World.size_alloc] at PR
  have B0 : Hid (Below w.heap.size w ((w.alloc (.cells #[.slice a0 D.f0.length p0, .slice a1 D.f1.length p1, .slice a2 D.f2.length p2, .slice a3 D.f3.length p3, .int .i64 z] 55)).alloc (.cells #[.slice none 0 0, .slice none 0 0, .slice none 0 0, .slice none 0 0, .int .i64 0] 55))) := ((Below.refl _ _).alloc (Nat.le_refl _) _).alloc (by simp) _
  obtain ⟨q0, q1, q2, q3, q4⟩ := PA.out.five
  go_enter Try.func49, Try.ntmps49
  go_wp2_with fail
  refine (igoodT_eq _ D true HT.out _ (HR.out.below B0.out)).mono ?_
  rintro e w1 ⟨rfl, b1⟩
  have hs0 : ((w.alloc (.cells #[.slice a0 D.f0.length p0, .slice a1 D.f1.length p1, .slice a2 D.f2.length p2, .slice a3 D.f3.length p3, .int .i64 z] 55)).alloc (.cells #[.slice none 0 0, .slice none 0 0, .slice none 0 0, .slice none 0 0, .int .i64 0] 55)).heap.size = w.heap.size + 2 := by rw [World.size_alloc, World.size_alloc]
  have hs1 := b1.size
  rw [hs0] at hs1
  have B1 : Hid (Below w.heap.size w w1) := B0.out.trans (b1.mono B0.out.size)
  have PA1 := hid (PA.out.below b1 PA.out.lt)
  have PR1 := hid (PR.out.below b1 PR.out.lt)
  clear b1 q0 q1 q2 q3 q4 PA PR B0 hs0
  obtain ⟨q0, q1, q2, q3, q4⟩ := PA1.out.five
  have e1' : decide ((m : Int) < 0) = false := by rw [decide_eq_false_iff_not]; omega
  have e2' : decide (60 < (m : Int)) = false := by rw [decide_eq_false_iff_not]; omega
  have e3' : decide (60 < m) = false := by rw [decide_eq_false_iff_not]; omega
  go_wp2_with fail
  clear e1' e2' e3'
  refine (ilike_any _ D _ (HR.out.below B1.out) HG.out).mono ?_
  rintro e w3 ⟨u0, rfl, ht, b3⟩
  have B3 : Hid (Below w.heap.size w w3) := B1.out.trans (b3.mono B1.out.size)
  have PR3 := hid (PR1.out.below b3 PR1.out.lt)
  have hs3 := b3.size
  obtain ⟨d0, m0, j0, d1, m1, j1, d2, m2, j2, d3, m3, j3, c0, c1, c2, c3, iv, rfl, hC⟩ := tuC_new ht.own (Nat.le_refl _)
  rw [← HZ.out] at hC
  have HC := hid hC
  have BX : Hid (Below w3.heap.size w3 (w3.alloc (.cells #[.slice d0 m0 j0, .slice d1 m1 j1, .slice d2 m2 j2, .slice d3 m3 j3, .int .i64 z] 55))) := (Below.refl _ _).alloc (Nat.le_refl _) _
  have hsX : (w3.alloc (.cells #[.slice d0 m0 j0, .slice d1 m1 j1, .slice d2 m2 j2, .slice d3 m3 j3, .int .i64 z] 55)).heap.size = w3.heap.size + 1 := World.size_alloc _ _
  have PRX := hid (PR3.out.below BX.out PR3.out.lt)
  rw [← HZ.out]
  clear ht hC b3 q0 q1 q2 q3 q4
  go_wp2_with fail
  obtain ⟨wx, hwx⟩ : ∃ wx, wx = w3.alloc (.cells #[.slice d0 m0 j0, .slice d1 m1 j1, .slice d2 m2 j2, .slice d3 m3 j3, .int .i64 z] 55) := ⟨_, rfl⟩
  rw [← hwx] at HC BX hsX PRX ⊢
  obtain ⟨X, hX⟩ : ∃ X, X = w3.heap.size := ⟨_, rfl⟩
  rw [← hX] at HC hsX ⊢
  have HX := hid hX
  clear hwx hX
  have HB : Hid (Below w.heap.size w wx) := B3.out.trans (BX.out.mono B3.out.size)
  rw [← HX.out] at hs3
  go_wp2_with fail
  go_loopw [24] (fun n wr => ∃ (i : Nat) (S : Nat → Prop) (iv' : Nat → Nat × Nat), n = .int .i64 (i : Nat) ∧ i ≤ m ∧ TuC S wr X (runD D i) (.slice d0 m0 j0) (.slice d1 m1 j1) (.slice d2 m2 j2) (.slice d3 m3 j3) c0 c1 c2 c3 iv' ∧ (∀ g, S g → w.heap.size + 2 ≤ g ∧ g < wr.heap.size) ∧ runOkB D i = true ∧ Below w.heap.size w wr ∧ BoxL wr (w.heap.size + 1) [.slice none 0 0, .slice none 0 0, .slice none 0 0, .slice none 0 0, .int .i64 0]) (fun n _ => m - (intOf n).toNat)
  case atStart =>
    exact ⟨0, _, _, rfl, by omega, HC.out, fun g hg => by unfold Iv at hg; omega, rfl, HB.out, PRX.out⟩
  case round =>
    obtain ⟨i, S, iv', rfl, hi, hC5, hS5, hok, hB5, hP5⟩ := hrel
    have PR5 := hid hP5
    have HB5 := hid hB5
    have HO := hid hok
    clear hP5 hB5 hok HC PRX HB
    by_cases hlt : i < m
    · have hgi : GoodT (runD D i) := runOk_of HG.out i HO.out i (Nat.le_refl _)
      have n1 : (i : Int) < (m : Int) := by omega
      have hRD : runD D (i + 1) = stepD (runD D i) := rfl
      have hgb := step_goodB hgi
      rw [← hRD] at hgb
      have HC5 := hid hC5
      have HS5 := hid hS5
      have HGI := hid hgi
      have HGB := hid hgb
      have hsx := HB5.out.size
      have hbl := hC5.box.lt
      clear hC5 hS5 hgi hgb hRD
      go_wp2_with fail
      refine (iturn_any HC5.out HGI.out (fun g hg => (HS5.out g hg).2)).mono ?_
      rintro e w5 ⟨vs, rfl, hP⟩
      obtain ⟨S', iv2, r, hC6, hK6, hr6, hS6, hb6⟩ := hP
      have b5 : Below (w.heap.size + 2) wr w5 := hb6 _ (by omega) (fun g hg => (HS5.out g hg).1) (by omega)
      have hs5 := b5.size
      obtain ⟨as', ns, ks, es⟩ := hK6.sform
      subst es
      rw [← HGB.out]
      obtain ⟨ok, hok⟩ : ∃ x, goodTu (runD D (i + 1)) = x := ⟨_, rfl⟩
      rw [hok]
      have HOK2 := hid hok
      have PR6 := hid (PR5.out.below b5 (by omega))
      have HB6' : Hid (Below w.heap.size w w5) := HB5.out.trans (b5.mono (by omega))
      have HS6 : Hid (∀ g, S' g → w.heap.size + 2 ≤ g ∧ g < w5.heap.size) := fun g hg => by
        rcases hS6 g hg with h | h
        · have := HS5.out g h; omega
        · omega
      have HC6 : Hid (TuC S' w5 X (runD D (i + 1)) (.slice d0 m0 j0) (.slice d1 m1 j1) (.slice d2 m2 j2) (.slice d3 m3 j3) c0 c1 c2 c3 iv2) := hC6
      clear hC6 hK6 hr6 hS6 hb6 b5 hok
      cases ok
      · obtain rfl : b = false := by rw [← HOK.out]; exact runOkB_no hlt HOK2.out
        have HRN := hid (HR2.out rfl)
        clear HR1 HR2 HOK HO HOK2 HGB HGI HC6 HS6 HC5 HS5
        obtain ⟨t0, t1, t2, t3, t4⟩ := PR6.out.five
        have x0 := (PR6.out.cell 0 (by simp)).2
        have x1 := (PR6.out.cell 1 (by simp)).2
        have x2 := (PR6.out.cell 2 (by simp)).2
        have x3 := (PR6.out.cell 3 (by simp)).2
        have x4 := (PR6.out.cell 4 (by simp)).2
        have op := put5_only w5 (w.heap.size + 1) (.slice none 0 0) (.slice none 0 0) (.slice none 0 0) (.slice none 0 0) (.int .i64 0)
        have bx := put5_box PR6.out (.slice none 0 0) (.slice none 0 0) (.slice none 0 0) (.slice none 0 0) (.int .i64 0)
        have hs6 := op.1
        have hs7 := HB6'.out.size
        have HB6 := hid (HB6'.out.trans (op.below (lo := w.heap.size) fun j e => by omega))
        obtain ⟨z0, z1, z2, z3, z4⟩ := bx.five
        clear op bx hs6
        go_wp2
        exact bodyPost_ret (v := .tuple #[.agg #[.slice none 0 0, .slice none 0 0, .slice none 0 0, .slice none 0 0, .int .i64 0], .bool false]) (by simp [results, Try.results49, go_sem, z0, z1, z2, z3, z4]) rfl ⟨_, rfl, by rw [HRN.out]; exact noT_own _ _ _, HB6.out⟩
      · have HO2 : Hid (runOkB D (i + 1) = true) := by
          show (runOkB D i && goodTu (runD D (i + 1))) = true
          rw [HO.out, HOK2.out]
          rfl
        go_wp2
        go_roundw
        case rel => exact ⟨i + 1, _, _, by go_num, by omega, HC6.out, HS6.out, HO2.out, HB6'.out, PR6.out⟩
        case measure => simp [intOf]; omega
    · obtain rfl : i = m := by omega
      obtain rfl : b = true := by rw [← HOK.out]; exact HO.out
      have HRY := hid (HR1.out rfl)
      clear HR1 HR2 HOK HO
      obtain ⟨zz, hzz⟩ : ∃ x, x = (runD D i).f4 := ⟨_, rfl⟩
      have hbx := hC5.box
      rw [← hzz] at hbx
      obtain ⟨y0, y1, y2, y3, y4⟩ := hbx.five
      obtain ⟨t0, t1, t2, t3, t4⟩ := PR5.out.five
      have x0 := (PR5.out.cell 0 (by simp)).2
      have x1 := (PR5.out.cell 1 (by simp)).2
      have x2 := (PR5.out.cell 2 (by simp)).2
      have x3 := (PR5.out.cell 3 (by simp)).2
      have x4 := (PR5.out.cell 4 (by simp)).2
      have op := put5_only wr (w.heap.size + 1) (.slice d0 m0 j0) (.slice d1 m1 j1) (.slice d2 m2 j2) (.slice d3 m3 j3) (.int .i64 zz)
      have bx := put5_box PR5.out (.slice d0 m0 j0) (.slice d1 m1 j1) (.slice d2 m2 j2) (.slice d3 m3 j3) (.int .i64 zz)
      have hs6 := op.1
      have HT6 : Hid (TuOwn (Iv w.heap.size (put5 wr (w.heap.size + 1) (.slice d0 m0 j0) (.slice d1 m1 j1) (.slice d2 m2 j2) (.slice d3 m3 j3) (.int .i64 zz)).heap.size) (put5 wr (w.heap.size + 1) (.slice d0 m0 j0) (.slice d1 m1 j1) (.slice d2 m2 j2) (.slice d3 m3 j3) (.int .i64 zz)) (.agg #[.slice d0 m0 j0, .slice d1 m1 j1, .slice d2 m2 j2, .slice d3 m3 j3, .int .i64 zz]) (runD D i)) := by
        have h := hC5.own
        rw [← hzz] at h
        refine (h.at (w' := put5 wr (w.heap.size + 1) (.slice d0 m0 j0) (.slice d1 m1 j1) (.slice d2 m2 j2) (.slice d3 m3 j3) (.int .i64 zz)) fun g hg _ => op.2.1 g (by have := hS5 g hg; omega)).mono fun g hg => ?_
        have := hS5 g hg
        unfold Iv
        rw [hs6]
        omega
      have HB6 := hid (HB5.out.trans (op.below (lo := w.heap.size) fun j e => by omega))
      obtain ⟨z0, z1, z2, z3, z4⟩ := bx.five
      clear op bx hs6 hbx hC5 hS5 hzz
      go_wp2
      exact bodyPost_ret (v := .tuple #[.agg #[.slice d0 m0 j0, .slice d1 m1 j1, .slice d2 m2 j2, .slice d3 m3 j3, .int .i64 zz], .bool true]) (by simp [results, Try.results49, go_sem, z0, z1, z2, z3, z4]) rfl ⟨_, rfl, by rw [HRY.out]; exact HT6.out, HB6.out⟩
end Go.Proofs.Yteeaebelknpdjac
