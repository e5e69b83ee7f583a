/-
  spec.RunTurns: so many turns, on turns of their own. Nothing old is written.
-/
import Derived.Test.YteeaebelknpdjacSNext
import Derived.Test.YteeaebelknpdjacSNextNo
import Derived.Test.YteeaebelknpdjacSIn
import Derived.Test.YteeaebelknpdjacKOwnS
namespace Go.Proofs.Yteeaebelknpdjac
open Go.RowKit

set_option maxRecDepth 100000 in
set_option maxHeartbeats 16000000 in
theorem srun_any (v : Value) (D : TuD) (m : Nat) (w : World) (hr : TuReads w v D) (h : goodTu D = true) (hm : m ≤ 60) (b : Bool) (hb : runOkB D m = b) (R0 : TuD) (h1 : b = true → R0 = runD D m) (h2 : b = false → R0 = noT) :
    Calls Try.prog 50 #[v, .int .i64 (m : Int)] w fun e w' => ∃ u0, e = .returned (.tuple #[u0, .bool b]) ∧ TuOwn (Iv w.heap.size w'.heap.size) w' u0 R0 ∧ Below w.heap.size w w' := by
  have HT := hid h
  have HG := hid (goodT_of h)
  have HOK := hid hb
  have HR1 := hid h1
  have HR2 := hid h2
  clear h hb h1 h2
  have HR := hid hr
  obtain ⟨v0, v1, v2, v3, rfl, r0, r1, r2, r3⟩ := hr
  obtain ⟨a0, p0, rfl, _, _⟩ := r0
  obtain ⟨a1, p1, rfl, _, _⟩ := r1
  obtain ⟨a2, p2, rfl, _, _⟩ := r2
  obtain ⟨a3, p3, rfl, _, _⟩ := r3
  obtain ⟨z, hz⟩ : ∃ z, z = D.f4 := ⟨_, rfl⟩
  have HZ := hid hz
  rw [← hz] at HR ⊢
  clear hz
  have PA := hid (boxL_new w [.slice a0 D.f0.length p0, .slice a1 D.f1.length p1, .slice a2 D.f2.length p2, .slice a3 D.f3.length p3, .int .i64 z] 55)
  have PR := hid (boxL_new (w.alloc (.cells #[.slice a0 D.f0.length p0, .slice a1 D.f1.length p1, .slice a2 D.f2.length p2, .slice a3 D.f3.length p3, .int .i64 z] 55)) [.slice none 0 0, .slice none 0 0, .slice none 0 0, .slice none 0 0, .int .i64 0] 55)
  replace PA := hid (PA.out.below ((Below.refl _ _).alloc (Nat.le_refl _) (.cells #[.slice none 0 0, .slice none 0 0, .slice none 0 0, .slice none 0 0, .int .i64 0] 55)) PA.out.lt)
  rw [World.size_alloc] at PR
  have B0 : Hid (Below w.heap.size w ((w.alloc (.cells #[.slice a0 D.f0.length p0, .slice a1 D.f1.length p1, .slice a2 D.f2.length p2, .slice a3 D.f3.length p3, .int .i64 z] 55)).alloc (.cells #[.slice none 0 0, .slice none 0 0, .slice none 0 0, .slice none 0 0, .int .i64 0] 55))) := ((Below.refl _ _).alloc (Nat.le_refl _) _).alloc (by simp) _
  obtain ⟨q0, q1, q2, q3, q4⟩ := PA.out.five
  go_enter Try.func50, Try.ntmps50
  go_wp2_with fail
  refine (sgoodT_eq _ D true HT.out _ (HR.out.below B0.out)).mono ?_
  rintro e w1 ⟨rfl, b1⟩
  have hs0 : ((w.alloc (.cells #[.slice a0 D.f0.length p0, .slice a1 D.f1.length p1, .slice a2 D.f2.length p2, .slice a3 D.f3.length p3, .int .i64 z] 55)).alloc (.cells #[.slice none 0 0, .slice none 0 0, .slice none 0 0, .slice none 0 0, .int .i64 0] 55)).heap.size = w.heap.size + 2 := by rw [World.size_alloc, World.size_alloc]
  have hs1 := b1.size
  rw [hs0] at hs1
  have B1 : Hid (Below w.heap.size w w1) := B0.out.trans (b1.mono B0.out.size)
  have PA1 := hid (PA.out.below b1 PA.out.lt)
  have PR1 := hid (PR.out.below b1 PR.out.lt)
  clear b1 q0 q1 q2 q3 q4 PA PR B0 hs0
  obtain ⟨q0, q1, q2, q3, q4⟩ := PA1.out.five
  go_wp2_with fail
  refine (l1In_eq (m : Int) 0 60 true (by rw [decide_eq_true_eq]; omega) _).mono ?_
  rintro e w' ⟨rfl, hw⟩; obtain rfl := hw.symm
  go_wp2_with fail
  refine (sown_any _ D _ (HR.out.below B1.out) HG.out).mono ?_
  rintro e w3 ⟨u0, rfl, ht, b3⟩
  have B3 : Hid (Below w.heap.size w w3) := B1.out.trans (b3.mono B1.out.size)
  have PR3 := hid (PR1.out.below b3 PR1.out.lt)
  have hs3 := b3.size
  obtain ⟨d0, m0, j0, d1, m1, j1, d2, m2, j2, d3, m3, j3, c0, c1, c2, c3, iv, rfl, hC⟩ := tuC_new ht.own (Nat.le_refl _)
  rw [← HZ.out] at hC
  have HC := hid hC
  have BX : Hid (Below w3.heap.size w3 (w3.alloc (.cells #[.slice d0 m0 j0, .slice d1 m1 j1, .slice d2 m2 j2, .slice d3 m3 j3, .int .i64 z] 55))) := (Below.refl _ _).alloc (Nat.le_refl _) _
  have hsX : (w3.alloc (.cells #[.slice d0 m0 j0, .slice d1 m1 j1, .slice d2 m2 j2, .slice d3 m3 j3, .int .i64 z] 55)).heap.size = w3.heap.size + 1 := World.size_alloc _ _
  have PRX := hid (PR3.out.below BX.out PR3.out.lt)
  rw [← HZ.out]
  clear ht hC b3 q0 q1 q2 q3 q4
  go_wp2_with fail
  obtain ⟨wx, hwx⟩ : ∃ wx, wx = w3.alloc (.cells #[.slice d0 m0 j0, .slice d1 m1 j1, .slice d2 m2 j2, .slice d3 m3 j3, .int .i64 z] 55) := ⟨_, rfl⟩
  rw [← hwx] at HC BX hsX PRX ⊢
  obtain ⟨X, hX⟩ : ∃ X, X = w3.heap.size := ⟨_, rfl⟩
  rw [← hX] at HC hsX ⊢
  have HX := hid hX
  clear hwx hX
  have HB : Hid (Below w.heap.size w wx) := B3.out.trans (BX.out.mono B3.out.size)
  rw [← HX.out] at hs3
  go_wp2_with fail
  go_loopw [1] (fun n wr => ∃ (i : Nat) (S : Nat → Prop) (b0 : Option Addr) (i0 l0 : Nat) (b1 : Option Addr) (i1 l1 : Nat) (b2 : Option Addr) (i2 l2 : Nat) (b3 : Option Addr) (i3 l3 : Nat) (e0 e1 e2 e3 : Nat × Nat) (iv' : Nat → Nat × Nat), n = .int .i64 (m - i : Nat) ∧ i ≤ m ∧ TuC S wr X (runD D i) (.slice b0 i0 l0) (.slice b1 i1 l1) (.slice b2 i2 l2) (.slice b3 i3 l3) e0 e1 e2 e3 iv' ∧ (∀ g, S g → w.heap.size + 2 ≤ g ∧ g < wr.heap.size) ∧ runOkB D i = true ∧ Below w.heap.size w wr ∧ BoxL wr (w.heap.size + 1) [.slice none 0 0, .slice none 0 0, .slice none 0 0, .slice none 0 0, .int .i64 0]) (fun n _ => (intOf n).toNat)
  case atStart => exact ⟨0, _, _, _, _, _, _, _, _, _, _, _, _, _, _, _, _, _, _, by simp, by omega, HC.out, fun g hg => by unfold Iv at hg; omega, rfl, HB.out, PRX.out⟩
  case round =>
    obtain ⟨i, S, b0, i0, l0, b1, i1, l1, b2, i2, l2, b3, i3, l3, e0, e1, e2, e3, iv', rfl, hi, hC5, hS5, hok, hB5, hP5⟩ := hrel
    have PR5 := hid hP5
    have HB5 := hid hB5
    have HO := hid hok
    clear hP5 hB5 hok HC PRX HB
    obtain ⟨zi, hzi⟩ : ∃ x, x = (runD D i).f4 := ⟨_, rfl⟩
    have HZI := hid hzi
    by_cases hlt : i < m
    · have hgi : GoodT (runD D i) := runOk_of HG.out i HO.out i (Nat.le_refl _)
      have HGU := hid (goodTu_of hgi)
      obtain ⟨mi, hmi⟩ : ∃ x, x = m - i := ⟨_, rfl⟩
      rw [← hmi]
      have hmi0 : 0 < mi := by omega
      have dm : decide ((0 : Int) < (mi : Int)) = true := by rw [decide_eq_true_eq]; omega
      have dm2 : decide (0 < mi) = true := by rw [decide_eq_true_eq]; exact hmi0
      have HMI := hid hmi
      have hbx := hC5.box
      rw [← hzi] at hbx
      obtain ⟨y0, y1, y2, y3, y4⟩ := hbx.five
      have hrd := hC5.own.reads
      rw [← hzi] at hrd
      have HRD := hid hrd
      have hbl := hbx.lt
      have HBX := hid hbx
      clear hzi hmi hrd hbx hgi hC5 hS5
      obtain ⟨ok, hok⟩ : ∃ x, nextOk (runD D i) = x := ⟨_, rfl⟩
      have HOK2 := hid hok
      have hgb : goodTu (runD D (i + 1)) = ok := by
        rw [← hok]
        unfold nextOk
        rw [HGU.out, Bool.true_and]
        rfl
      have HGB := hid hgb
      clear hok hgb
      cases ok
      · obtain rfl : b = false := by rw [← HOK.out]; exact runOkB_no hlt HGB.out
        have HRN := hid (HR2.out rfl)
        clear HR1 HR2 HOK HO
        go_wp2_with fail
        refine (snext_no _ (runD D i) _ HRD.out HOK2.out).mono ?_
        rintro e w5 ⟨u0, u1, S0, S1, rfl, hT, hK, _, _, b5⟩
        obtain ⟨a0', n0', k0', a1', n1', k1', a2', n2', k2', a3', n3', k3', eu⟩ := hT.form
        subst eu
        obtain ⟨l, e', hk', _⟩ := hK
        obtain ⟨as', ns, ks, es⟩ := hk'.sform
        subst es
        have hsx := HB5.out.size
        have PR6 := hid ((PR5.out.below b5 PR5.out.lt).below (((Below.refl w5.heap.size w5).alloc (Nat.le_refl _) (.cells #[.slice a0' n0' k0', .slice a1' n1' k1', .slice a2' n2' k2', .slice a3' n3' k3', .int .i64 noT.f4] 55))) (by have := b5.size; have := PR5.out.lt; omega))
        have HB6' : Hid (Below w.heap.size w (w5.alloc (.cells #[.slice a0' n0' k0', .slice a1' n1' k1', .slice a2' n2' k2', .slice a3' n3' k3', .int .i64 noT.f4] 55))) := (HB5.out.trans (b5.mono hsx)).alloc (by have := b5.size; omega) _
        clear hT hk' b5
        obtain ⟨t0, t1, t2, t3, t4⟩ := PR6.out.five
        have x0 := (PR6.out.cell 0 (by simp)).2
        have x1 := (PR6.out.cell 1 (by simp)).2
        have x2 := (PR6.out.cell 2 (by simp)).2
        have x3 := (PR6.out.cell 3 (by simp)).2
        have x4 := (PR6.out.cell 4 (by simp)).2
        have op := put5_only (w5.alloc (.cells #[.slice a0' n0' k0', .slice a1' n1' k1', .slice a2' n2' k2', .slice a3' n3' k3', .int .i64 noT.f4] 55)) (w.heap.size + 1) (.slice none 0 0) (.slice none 0 0) (.slice none 0 0) (.slice none 0 0) (.int .i64 0)
        have bx := put5_box PR6.out (.slice none 0 0) (.slice none 0 0) (.slice none 0 0) (.slice none 0 0) (.int .i64 0)
        have HB6 := hid (HB6'.out.trans (op.below (lo := w.heap.size) fun j e => by omega))
        obtain ⟨z0, z1, z2, z3, z4⟩ := bx.five
        clear op bx y0 y1 y2 y3 y4
        go_wp2
        exact bodyPost_ret (v := .tuple #[.agg #[.slice none 0 0, .slice none 0 0, .slice none 0 0, .slice none 0 0, .int .i64 0], .bool false]) (by simp [results, Try.results50, go_sem, z0, z1, z2, z3, z4]) rfl ⟨_, rfl, by rw [HRN.out]; exact noT_own _ _ _, HB6.out⟩
      · have HO2 : Hid (runOkB D (i + 1) = true) := by
          show (runOkB D i && goodTu (runD D (i + 1))) = true
          rw [HO.out, HGB.out]
          rfl
        go_wp2_with fail
        refine (snext_yes _ (runD D i) _ HRD.out HOK2.out).mono ?_
        rintro e w5 ⟨u0, u1, S0, S1, rfl, hT, hK, _, hin, b5⟩
        obtain ⟨v0', v1', v2', v3', f0, f1, f2, f3, iw, eu, hA, k0, k1, k2, k3⟩ := hT
        obtain ⟨a0', n0', k0', e0'⟩ := k0.sform
        obtain ⟨a1', n1', k1', e1'⟩ := k1.sform
        obtain ⟨a2', n2', k2', e2'⟩ := k2.sform
        obtain ⟨a3', n3', k3', e3'⟩ := k3.sform
        subst e0' e1' e2' e3'
        obtain ⟨zz, hzz⟩ : ∃ x, x = (stepD (runD D i)).f4 := ⟨_, rfl⟩
        rw [← hzz] at eu
        subst eu
        obtain ⟨l, e', hk', _⟩ := hK
        obtain ⟨as', ns, ks, es⟩ := hk'.sform
        subst es
        have hsx := HB5.out.size
        have hs5 := b5.size
        have ba : Below w5.heap.size w5 (w5.alloc (.cells #[.slice a0' n0' k0', .slice a1' n1' k1', .slice a2' n2' k2', .slice a3' n3' k3', .int .i64 zz] 55)) := (Below.refl _ _).alloc (Nat.le_refl _) _
        have hsa : (w5.alloc (.cells #[.slice a0' n0' k0', .slice a1' n1' k1', .slice a2' n2' k2', .slice a3' n3' k3', .int .i64 zz] 55)).heap.size = w5.heap.size + 1 := World.size_alloc _ _
        have HX6 := (HBX.out.below b5 hbl).below ba (by omega)
        have op := put5_only (w5.alloc (.cells #[.slice a0' n0' k0', .slice a1' n1' k1', .slice a2' n2' k2', .slice a3' n3' k3', .int .i64 zz] 55)) X (.slice a0' n0' k0') (.slice a1' n1' k1') (.slice a2' n2' k2') (.slice a3' n3' k3') (.int .i64 zz)
        have hs7 := op.1
        have hfar : ∀ g, S0 g → ¬ g = X := fun g hg e => by have := (hin g (.inl hg)).1; omega
        have nin := fun j hj => (hA.inn j hj).2
        have HC7 : Hid (TuC S0 (put5 (w5.alloc (.cells #[.slice a0' n0' k0', .slice a1' n1' k1', .slice a2' n2' k2', .slice a3' n3' k3', .int .i64 zz] 55)) X (.slice a0' n0' k0') (.slice a1' n1' k1') (.slice a2' n2' k2') (.slice a3' n3' k3') (.int .i64 zz)) X (runD D (i + 1)) (.slice a0' n0' k0') (.slice a1' n1' k1') (.slice a2' n2' k2') (.slice a3' n3' k3') f0 f1 f2 f3 iw) := by
          refine ⟨?_, fun hX => by have := (hin X (.inl hX)).1; omega, hA, (k0.below ba).onlyP op fun g g1 g2 => hfar g (nin 0 (by omega) g g1 g2), (k1.below ba).onlyP op (fun g g1 g2 => hfar g (nin 1 (by omega) g g1 g2)) (fun j hj g g1 g2 => hfar g (nin (j + 4) (by have : j < (stepD (runD D i)).f1.length := hj; omega) g g1 g2)), (k2.below ba).onlyP op fun g g1 g2 => hfar g (nin 2 (by omega) g g1 g2), (k3.below ba).onlyP op fun g g1 g2 => hfar g (nin 3 (by omega) g g1 g2)⟩
          have h := put5_box HX6 (.slice a0' n0' k0') (.slice a1' n1' k1') (.slice a2' n2' k2') (.slice a3' n3' k3') (.int .i64 zz)
          rw [hzz] at h ⊢
          exact h
        have HS7 : Hid (∀ g, S0 g → w.heap.size + 2 ≤ g ∧ g < (put5 (w5.alloc (.cells #[.slice a0' n0' k0', .slice a1' n1' k1', .slice a2' n2' k2', .slice a3' n3' k3', .int .i64 zz] 55)) X (.slice a0' n0' k0') (.slice a1' n1' k1') (.slice a2' n2' k2') (.slice a3' n3' k3') (.int .i64 zz)).heap.size) := fun g hg => by
          have := hin g (.inl hg)
          rw [hs7, hsa]
          omega
        have HB7 : Hid (Below w.heap.size w (put5 (w5.alloc (.cells #[.slice a0' n0' k0', .slice a1' n1' k1', .slice a2' n2' k2', .slice a3' n3' k3', .int .i64 zz] 55)) X (.slice a0' n0' k0') (.slice a1' n1' k1') (.slice a2' n2' k2') (.slice a3' n3' k3') (.int .i64 zz))) := ((HB5.out.trans (b5.mono hsx)).trans (ba.mono (by omega))).trans (op.below (lo := w.heap.size) fun j e => by omega)
        have PR7 : Hid (BoxL (put5 (w5.alloc (.cells #[.slice a0' n0' k0', .slice a1' n1' k1', .slice a2' n2' k2', .slice a3' n3' k3', .int .i64 zz] 55)) X (.slice a0' n0' k0') (.slice a1' n1' k1') (.slice a2' n2' k2') (.slice a3' n3' k3') (.int .i64 zz)) (w.heap.size + 1) [.slice none 0 0, .slice none 0 0, .slice none 0 0, .slice none 0 0, .int .i64 0]) := ((PR5.out.below b5 PR5.out.lt).below ba (by have := PR5.out.lt; omega)).of_block (op.2.1 _ (by omega))
        obtain ⟨t0, t1, t2, t3, t4⟩ := HX6.five
        have x0 := (HX6.cell 0 (by simp)).2
        have x1 := (HX6.cell 1 (by simp)).2
        have x2 := (HX6.cell 2 (by simp)).2
        have x3 := (HX6.cell 3 (by simp)).2
        have x4 := (HX6.cell 4 (by simp)).2
        have hw1 : IntKind.i64.wrap ((mi : Int) - 1) = ((mi - 1 : Nat) : Int) := by have := HMI.out; rw [IntKind.wrap_i64]; omega
        have hmi1 : mi - 1 = m - (i + 1) := by have := HMI.out; omega
        have HMI1 := hid hmi1
        clear hA k0 k1 k2 k3 hk' b5 ba hsa op hs7 hfar nin hin y0 y1 y2 y3 y4 hzz hmi1 HX6
        go_wp2
        go_roundw
        case rel => exact ⟨i + 1, _, _, _, _, _, _, _, _, _, _, _, _, _, _, _, _, _, _, by rw [← HMI1.out], by omega, HC7.out, HS7.out, HO2.out, HB7.out, PR7.out⟩
        case measure => simp [intOf]; omega
    · obtain rfl : i = m := by omega
      clear hzi HZI
      rw [Nat.sub_self]
      obtain rfl : b = true := by rw [← HOK.out]; exact HO.out
      have HRY := hid (HR1.out rfl)
      clear HR1 HR2 HOK HO
      obtain ⟨zz, hzz⟩ : ∃ x, x = (runD D i).f4 := ⟨_, rfl⟩
      have hbx := hC5.box
      rw [← hzz] at hbx
      obtain ⟨y0, y1, y2, y3, y4⟩ := hbx.five
      obtain ⟨t0, t1, t2, t3, t4⟩ := PR5.out.five
      have x0 := (PR5.out.cell 0 (by simp)).2
      have x1 := (PR5.out.cell 1 (by simp)).2
      have x2 := (PR5.out.cell 2 (by simp)).2
      have x3 := (PR5.out.cell 3 (by simp)).2
      have x4 := (PR5.out.cell 4 (by simp)).2
      have op := put5_only wr (w.heap.size + 1) (.slice b0 i0 l0) (.slice b1 i1 l1) (.slice b2 i2 l2) (.slice b3 i3 l3) (.int .i64 zz)
      have bx := put5_box PR5.out (.slice b0 i0 l0) (.slice b1 i1 l1) (.slice b2 i2 l2) (.slice b3 i3 l3) (.int .i64 zz)
      have hs6 := op.1
      have HT6 : Hid (TuOwn (Iv w.heap.size (put5 wr (w.heap.size + 1) (.slice b0 i0 l0) (.slice b1 i1 l1) (.slice b2 i2 l2) (.slice b3 i3 l3) (.int .i64 zz)).heap.size) (put5 wr (w.heap.size + 1) (.slice b0 i0 l0) (.slice b1 i1 l1) (.slice b2 i2 l2) (.slice b3 i3 l3) (.int .i64 zz)) (.agg #[.slice b0 i0 l0, .slice b1 i1 l1, .slice b2 i2 l2, .slice b3 i3 l3, .int .i64 zz]) (runD D i)) := by
        have h := hC5.own
        rw [← hzz] at h
        refine (h.at (w' := put5 wr (w.heap.size + 1) (.slice b0 i0 l0) (.slice b1 i1 l1) (.slice b2 i2 l2) (.slice b3 i3 l3) (.int .i64 zz)) fun g hg _ => op.2.1 g (by have := hS5 g hg; omega)).mono fun g hg => ?_
        have := hS5 g hg
        unfold Iv
        rw [hs6]
        omega
      have HB6 := hid (HB5.out.trans (op.below (lo := w.heap.size) fun j e => by omega))
      obtain ⟨z0, z1, z2, z3, z4⟩ := bx.five
      clear op bx hs6 hbx hC5 hS5 hzz
      go_wp2
      exact bodyPost_ret (v := .tuple #[.agg #[.slice b0 i0 l0, .slice b1 i1 l1, .slice b2 i2 l2, .slice b3 i3 l3, .int .i64 zz], .bool true]) (by simp [results, Try.results50, go_sem, z0, z1, z2, z3, z4]) rfl ⟨_, rfl, by rw [HRY.out]; exact HT6.out, HB6.out⟩
end Go.Proofs.Yteeaebelknpdjac
