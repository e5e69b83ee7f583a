/-
  spec.NextTurn: a turn, on turns of their own. Nothing old is written.
-/
import Derived.Test.YtepnhbicmlfnhacSNextT
import Derived.Test.YtepnhbicmlfnhacSOwnT
import Derived.Test.YtepnhbicmlfnhacSGoodT
import Derived.Test.YtepnhbicmlfnhacKOwnS
namespace Go.Proofs.Ytepnhbicmlfnhac
open Go.RowKit

set_option maxRecDepth 100000 in
set_option maxHeartbeats 16000000 in
theorem snext_yes (v : Value) (D : TuD) (w : World) (hr : TuReads w v D) (h : nextOk D = true) :
    Calls Try.prog 35 #[v] w fun e w' => ∃ u0 u1 S0 S1, e = .returned (.tuple #[u0, u1, .bool true]) ∧ TuOwn S0 w' u0 (stepD D) ∧ KOwnS S1 w' u1 (sendT D (atN D)) ∧ (∀ g, S0 g → S1 g → False) ∧ (∀ g, S0 g ∨ S1 g → w.heap.size ≤ g ∧ g < w'.heap.size) ∧ Below w.heap.size w w' := by
  unfold nextOk at h
  rw [Bool.and_eq_true] at h
  have HT := hid h.1
  have HT2 := hid h.2
  have HG := hid (goodT_of h.1)
  clear h
  have HR := hid hr
  obtain ⟨v0, v1, v2, v3, rfl, r0, r1, r2, r3⟩ := hr
  obtain ⟨a0, p0, rfl, _, _⟩ := r0
  obtain ⟨a1, p1, rfl, _, _⟩ := r1
  obtain ⟨a2, p2, rfl, _, _⟩ := r2
  obtain ⟨a3, p3, rfl, _, _⟩ := r3
  obtain ⟨z, hz⟩ : ∃ z, z = D.f4 := ⟨_, rfl⟩
  have HZ := hid hz
  rw [← hz] at HR ⊢
  clear hz
  have PA := hid (boxL_new w [.slice a0 D.f0.length p0, .slice a1 D.f1.length p1, .slice a2 D.f2.length p2, .slice a3 D.f3.length p3, .int .i64 z] 55)
  have PR := hid (boxL_new (w.alloc (.cells #[.slice a0 D.f0.length p0, .slice a1 D.f1.length p1, .slice a2 D.f2.length p2, .slice a3 D.f3.length p3, .int .i64 z] 55)) [.slice none 0 0, .slice none 0 0, .slice none 0 0, .slice none 0 0, .int .i64 0] 55)
  replace PA := hid (PA.out.below ((Below.refl _ _).alloc (Nat.le_refl _) (.cells #[.slice none 0 0, .slice none 0 0, .slice none 0 0, .slice none 0 0, .int .i64 0] 55)) PA.out.lt)
  rw [World.size_alloc] at PR
  have B0 : Hid (Below w.heap.size w ((w.alloc (.cells #[.slice a0 D.f0.length p0, .slice a1 D.f1.length p1, .slice a2 D.f2.length p2, .slice a3 D.f3.length p3, .int .i64 z] 55)).alloc (.cells #[.slice none 0 0, .slice none 0 0, .slice none 0 0, .slice none 0 0, .int .i64 0] 55))) := ((Below.refl _ _).alloc (Nat.le_refl _) _).alloc (by simp) _
  obtain ⟨q0, q1, q2, q3, q4⟩ := PA.out.five
  go_enter Try.func35, Try.ntmps35
  go_wp2_with fail
  refine (sgoodT_eq _ D true HT.out _ (HR.out.below B0.out)).mono ?_
  rintro e w1 ⟨rfl, b1⟩
  have hs0 : ((w.alloc (.cells #[.slice a0 D.f0.length p0, .slice a1 D.f1.length p1, .slice a2 D.f2.length p2, .slice a3 D.f3.length p3, .int .i64 z] 55)).alloc (.cells #[.slice none 0 0, .slice none 0 0, .slice none 0 0, .slice none 0 0, .int .i64 0] 55)).heap.size = w.heap.size + 2 := by rw [World.size_alloc, World.size_alloc]
  have hs1 := b1.size
  rw [hs0] at hs1
  have B1 : Hid (Below w.heap.size w w1) := B0.out.trans (b1.mono B0.out.size)
  have PA1 := hid (PA.out.below b1 PA.out.lt)
  have PR1 := hid (PR.out.below b1 PR.out.lt)
  clear b1 q0 q1 q2 q3 q4 PA PR B0 hs0
  obtain ⟨q0, q1, q2, q3, q4⟩ := PA1.out.five
  go_wp2_with fail
  refine (sown_any _ D _ (HR.out.below B1.out) HG.out).mono ?_
  rintro e w3 ⟨u0, rfl, ht, b3⟩
  have B3 : Hid (Below w.heap.size w w3) := B1.out.trans (b3.mono B1.out.size)
  have PR3 := hid (PR1.out.below b3 PR1.out.lt)
  obtain ⟨s0, s1, s2, s3, c0, c1, c2, c3, iv, rfl, hA, k0, k1, k2, k3⟩ := ht.own
  have hs3 := b3.size
  rw [← HZ.out]
  have HA := hid hA
  have K0 := hid k0
  have K1 := hid k1
  have K2 := hid k2
  have K3 := hid k3
  clear ht b3 q0 q1 q2 q3 q4 hA k0 k1 k2 k3
  go_wp2_with fail
  refine (show Calls Try.prog 87 #[.agg #[s0, s1, s2, s3, .int .i64 z]] w3 _ from by rw [HZ.out]; exact snext_tu HA.out K0.out K1.out K2.out K3.out HG.out (fun g hg => hg.2)).mono ?_
  rintro e w5 ⟨u, vs, rfl, hP⟩
  obtain ⟨S', r, hT5, hK5, hr5, hS5, hb5⟩ := hP
  have b5 : Below (w.heap.size + 2) w3 w5 := hb5 _ (fun g hg => by unfold Iv at hg; omega) (by omega)
  have hs5 := b5.size
  have PR5 := hid (PR3.out.below b5 (by omega))
  have HB5 : Hid (Below w.heap.size w w5) := B3.out.trans (b5.mono (by omega))
  obtain ⟨a0', n0', k0', a1', n1', k1', a2', n2', k2', a3', n3', k3', eu⟩ := hT5.form
  obtain ⟨zz, hzz⟩ : ∃ x, x = (stepD D).f4 := ⟨_, rfl⟩
  rw [← hzz] at eu
  subst eu
  obtain ⟨as', ns, ks, es⟩ := hK5.sform
  subst es
  have PX := hid (boxL_new w5 [.slice a0' n0' k0', .slice a1' n1' k1', .slice a2' n2' k2', .slice a3' n3' k3', .int .i64 zz] 55)
  have BX : Hid (Below w5.heap.size w5 (w5.alloc (.cells #[.slice a0' n0' k0', .slice a1' n1' k1', .slice a2' n2' k2', .slice a3' n3' k3', .int .i64 zz] 55))) := (Below.refl _ _).alloc (Nat.le_refl _) _
  have hsX : (w5.alloc (.cells #[.slice a0' n0' k0', .slice a1' n1' k1', .slice a2' n2' k2', .slice a3' n3' k3', .int .i64 zz] 55)).heap.size = w5.heap.size + 1 := World.size_alloc _ _
  have HT5 := hid hT5
  have HK5 := hid hK5
  have HR5 := hid hr5
  clear hT5 hK5 hr5 hS5 hb5 b5 hzz
  obtain ⟨y0, y1, y2, y3, y4⟩ := PX.out.five
  go_wp2_with fail
  obtain ⟨wx, hwx⟩ : ∃ wx, wx = w5.alloc (.cells #[.slice a0' n0' k0', .slice a1' n1' k1', .slice a2' n2' k2', .slice a3' n3' k3', .int .i64 zz] 55) := ⟨_, rfl⟩
  rw [← hwx] at PX BX hsX y0 y1 y2 y3 y4 ⊢
  clear hwx
  refine (sgoodT_eq _ (stepD D) true HT2.out _ (HT5.out.reads.below BX.out)).mono ?_
  rintro e w6 ⟨rfl, b6⟩
  have hs6 := b6.size
  have HB6 : Hid (Below w.heap.size w w6) := (HB5.out.trans (BX.out.mono HB5.out.size)).trans (b6.mono (by have := HB5.out.size; omega))
  have PR6 := hid ((PR5.out.below BX.out PR5.out.lt).below b6 (by have := PR5.out.lt; omega))
  have PX6 := hid (PX.out.below b6 PX.out.lt)
  have B56 : Hid (Below w5.heap.size w5 w6) := BX.out.trans (b6.mono (by omega))
  clear b6 y0 y1 y2 y3 y4
  obtain ⟨y0, y1, y2, y3, y4⟩ := PX6.out.five
  go_wp2_with fail
  refine (sown_any _ (stepD D) _ (HT5.out.reads.below B56.out) (goodT_of HT2.out)).mono ?_
  rintro e w8 ⟨u8, rfl, ht8, b8⟩
  obtain ⟨e0, n0, k0, e1, n1, k1, e2, n2, k2, e3, n3, k3, eu8⟩ := ht8.own.form
  obtain ⟨z8, hz8⟩ : ∃ x, x = (stepD D).f4 := ⟨_, rfl⟩
  rw [← hz8] at eu8
  subst eu8
  have hs8 := b8.size
  have PR8 := hid (PR6.out.below b8 PR6.out.lt)
  have HB8 : Hid (Below w.heap.size w w8) := HB6.out.trans (b8.mono HB6.out.size)
  have op := put5_only w8 (w.heap.size + 1) (.slice e0 n0 k0) (.slice e1 n1 k1) (.slice e2 n2 k2) (.slice e3 n3 k3) (.int .i64 z8)
  have bx := put5_box PR8.out (.slice e0 n0 k0) (.slice e1 n1 k1) (.slice e2 n2 k2) (.slice e3 n3 k3) (.int .i64 z8)
  have hs9 := op.1
  have hlw := HB5.out.size
  have HT9 : Hid (TuOwn (Iv w6.heap.size w8.heap.size) (put5 w8 (w.heap.size + 1) (.slice e0 n0 k0) (.slice e1 n1 k1) (.slice e2 n2 k2) (.slice e3 n3 k3) (.int .i64 z8)) (.agg #[.slice e0 n0 k0, .slice e1 n1 k1, .slice e2 n2 k2, .slice e3 n3 k3, .int .i64 z8]) (stepD D)) := ht8.own.at fun g hg _ => op.2.1 g (by unfold Iv at hg; omega)
  have HK9 : Hid (KOwnS (fun g => r.1 ≤ g ∧ g < r.2) (put5 w8 (w.heap.size + 1) (.slice e0 n0 k0) (.slice e1 n1 k1) (.slice e2 n2 k2) (.slice e3 n3 k3) (.int .i64 z8)) (.slice as' ns ks) (sendT D (atN D))) := ⟨r.1, r.2, ((HK5.out.below B56.out).below b8).onlyP op (fun g g1 g2 e => by have := (HR5.out g g1 g2).1; omega), fun g g1 g2 => ⟨g1, g2⟩⟩
  have HD9 : Hid (∀ g, Iv w6.heap.size w8.heap.size g → (r.1 ≤ g ∧ g < r.2) → False) := fun g hg h => by have := (HR5.out g h.1 h.2).1; unfold Iv at hg; omega
  have HI9 : Hid (∀ g, Iv w6.heap.size w8.heap.size g ∨ (r.1 ≤ g ∧ g < r.2) → w.heap.size ≤ g ∧ g < (put5 w8 (w.heap.size + 1) (.slice e0 n0 k0) (.slice e1 n1 k1) (.slice e2 n2 k2) (.slice e3 n3 k3) (.int .i64 z8)).heap.size) := fun g hg => by
    rw [hs9]
    rcases hg with hg | hg
    · unfold Iv at hg; omega
    · have := (HR5.out g hg.1 hg.2).1; omega
  have HB9 := hid (HB8.out.trans (op.below (lo := w.heap.size) fun j e => by omega))
  obtain ⟨z0, z1, z2, z3, z4⟩ := bx.five
  obtain ⟨t0, t1, t2, t3, t4⟩ := PR8.out.five
  have x0 := (PR8.out.cell 0 (by simp)).2
  have x1 := (PR8.out.cell 1 (by simp)).2
  have x2 := (PR8.out.cell 2 (by simp)).2
  have x3 := (PR8.out.cell 3 (by simp)).2
  have x4 := (PR8.out.cell 4 (by simp)).2
  clear op bx hs9 ht8 b8 hz8 hs8
  go_wp2
  exact bodyPost_ret (v := .tuple #[.agg #[.slice e0 n0 k0, .slice e1 n1 k1, .slice e2 n2 k2, .slice e3 n3 k3, .int .i64 z8], .slice as' ns ks, .bool true]) (by simp [results, Try.results35, go_sem, z0, z1, z2, z3, z4]) rfl ⟨_, _, _, _, rfl, HT9.out, HK9.out, HD9.out, HI9.out, HB9.out⟩
end Go.Proofs.Ytepnhbicmlfnhac
