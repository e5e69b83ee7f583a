/-
  impl.NextTurn: a turn, on turns of their own. Nothing old is written.
  impl.NextTurn, spec.NextTurn in one contract each. Nothing old is written.
-/
import Derived.Test.YtepnhbicmlfnhacITurn
import Derived.Test.YtepnhbicmlfnhacILikeT
import Derived.Test.YtepnhbicmlfnhacIGoodT
import Derived.Test.YtepnhbicmlfnhacKOwnS
import Derived.Test.YtepnhbicmlfnhacSNext
import Derived.Test.YtepnhbicmlfnhacSNextNo
import Derived.Test.YtepnhbicmlfnhacINextNo
namespace Go.Proofs.Ytepnhbicmlfnhac
open Go.RowKit

set_option maxRecDepth 100000 in
set_option maxHeartbeats 16000000 in
theorem inext_yes (v : Value) (D : TuD) (w : World) (hr : TuReads w v D) (h : nextOk D = true) :
    Calls Try.prog 34 #[v] w fun e w' => ∃ u0 u1 S0 S1, e = .returned (.tuple #[u0, u1, .bool true]) ∧ TuOwn S0 w' u0 (stepD D) ∧ KOwnS S1 w' u1 (sendT D (atN D)) ∧ (∀ g, S0 g → S1 g → False) ∧ (∀ g, S0 g ∨ S1 g → w.heap.size ≤ g ∧ g < w'.heap.size) ∧ Below w.heap.size w w' := by
  unfold nextOk at h
  rw [Bool.and_eq_true] at h
  have HT := hid h.1
  have HT2 := hid h.2
  have HG := hid (goodT_of h.1)
  clear h
  have HR := hid hr
  obtain ⟨v0, v1, v2, v3, rfl, r0, r1, r2, r3⟩ := hr
  obtain ⟨a0, p0, rfl, _, _⟩ := r0
  obtain ⟨a1, p1, rfl, _, _⟩ := r1
  obtain ⟨a2, p2, rfl, _, _⟩ := r2
  obtain ⟨a3, p3, rfl, _, _⟩ := r3
  obtain ⟨z, hz⟩ : ∃ z, z = D.f4 := ⟨_, rfl⟩
  have HZ := hid hz
  rw [← hz] at HR ⊢
  clear hz
  have PA := hid (boxL_new w [.slice a0 D.f0.length p0, .slice a1 D.f1.length p1, .slice a2 D.f2.length p2, .slice a3 D.f3.length p3, .int .i64 z] 55)
  have PR := hid (boxL_new (w.alloc (.cells #[.slice a0 D.f0.length p0, .slice a1 D.f1.length p1, .slice a2 D.f2.length p2, .slice a3 D.f3.length p3, .int .i64 z] 55)) [.slice none 0 0, .slice none 0 0, .slice none 0 0, .slice none 0 0, .int .i64 0] 55)
  replace PA := hid (PA.out.below ((Below.refl _ _).alloc (Nat.le_refl _) (.cells #[.slice none 0 0, .slice none 0 0, .slice none 0 0, .slice none 0 0, .int .i64 0] 55)) PA.out.lt)
  rw [World.size_alloc] at PR
  have B0 : Hid (Below w.heap.size w ((w.alloc (.cells #[.slice a0 D.f0.length p0, .slice a1 D.f1.length p1, .slice a2 D.f2.length p2, .slice a3 D.f3.length p3, .int .i64 z] 55)).alloc (.cells #[.slice none 0 0, .slice none 0 0, .slice none 0 0, .slice none 0 0, .int .i64 0] 55))) := ((Below.refl _ _).alloc (Nat.le_refl _) _).alloc (by simp) _
  obtain ⟨q0, q1, q2, q3, q4⟩ := PA.out.five
  go_enter Try.func34, Try.ntmps34
  go_wp2_with fail
  refine (igoodT_eq _ D true HT.out _ (HR.out.below B0.out)).mono ?_
  rintro e w1 ⟨rfl, b1⟩
  have hs0 : ((w.alloc (.cells #[.slice a0 D.f0.length p0, .slice a1 D.f1.length p1, .slice a2 D.f2.length p2, .slice a3 D.f3.length p3, .int .i64 z] 55)).alloc (.cells #[.slice none 0 0, .slice none 0 0, .slice none 0 0, .slice none 0 0, .int .i64 0] 55)).heap.size = w.heap.size + 2 := by rw [World.size_alloc, World.size_alloc]
  have hs1 := b1.size
  rw [hs0] at hs1
  have B1 : Hid (Below w.heap.size w w1) := B0.out.trans (b1.mono B0.out.size)
  have PA1 := hid (PA.out.below b1 PA.out.lt)
  have PR1 := hid (PR.out.below b1 PR.out.lt)
  clear b1 q0 q1 q2 q3 q4 PA PR B0 hs0
  obtain ⟨q0, q1, q2, q3, q4⟩ := PA1.out.five
  go_wp2_with fail
  refine (ilike_any _ D _ (HR.out.below B1.out) HG.out).mono ?_
  rintro e w3 ⟨u0, rfl, ht, b3⟩
  have B3 : Hid (Below w.heap.size w w3) := B1.out.trans (b3.mono B1.out.size)
  have PR3 := hid (PR1.out.below b3 PR1.out.lt)
  have hs3 := b3.size
  obtain ⟨d0, m0, j0, d1, m1, j1, d2, m2, j2, d3, m3, j3, c0, c1, c2, c3, iv, rfl, hC⟩ := tuC_new ht.own (Nat.le_refl _)
  rw [← HZ.out] at hC
  have HC := hid hC
  have BX : Hid (Below w3.heap.size w3 (w3.alloc (.cells #[.slice d0 m0 j0, .slice d1 m1 j1, .slice d2 m2 j2, .slice d3 m3 j3, .int .i64 z] 55))) := (Below.refl _ _).alloc (Nat.le_refl _) _
  have hsX : (w3.alloc (.cells #[.slice d0 m0 j0, .slice d1 m1 j1, .slice d2 m2 j2, .slice d3 m3 j3, .int .i64 z] 55)).heap.size = w3.heap.size + 1 := World.size_alloc _ _
  have PRX := hid (PR3.out.below BX.out PR3.out.lt)
  rw [← HZ.out]
  clear ht hC b3 q0 q1 q2 q3 q4
  go_wp2_with fail
  obtain ⟨wx, hwx⟩ : ∃ wx, wx = w3.alloc (.cells #[.slice d0 m0 j0, .slice d1 m1 j1, .slice d2 m2 j2, .slice d3 m3 j3, .int .i64 z] 55) := ⟨_, rfl⟩
  rw [← hwx] at HC BX hsX PRX ⊢
  obtain ⟨X, hX⟩ : ∃ X, X = w3.heap.size := ⟨_, rfl⟩
  rw [← hX] at HC hsX ⊢
  have HX := hid hX
  clear hwx hX
  have HB : Hid (Below w.heap.size w wx) := B3.out.trans (BX.out.mono B3.out.size)
  rw [← HX.out] at hs3
  refine (iturn_any HC.out HG.out (fun g hg => by unfold Iv at hg; omega)).mono ?_
  rintro e w5 ⟨vs, rfl, hP⟩
  have hok : decide (fl D.f3 (atN D) + sumI (sendT D (atN D)) ≤ 1000000) = true := by rw [← step_goodB HG.out]; exact HT2.out
  rw [hok]
  obtain ⟨S', iv', r, hC5, hK5, hr5, hS5, hb5⟩ := hP
  have b5 : Below (w.heap.size + 2) wx w5 := hb5 _ (by omega) (fun g hg => by unfold Iv at hg; omega) (by omega)
  have hs5 := b5.size
  have PR5 := hid (PRX.out.below b5 (by omega))
  have HB5 : Hid (Below w.heap.size w w5) := HB.out.trans (b5.mono (by omega))
  obtain ⟨zz, hzz⟩ : ∃ x, x = (stepD D).f4 := ⟨_, rfl⟩
  have hbx := hC5.box
  rw [← hzz] at hbx
  obtain ⟨y0, y1, y2, y3, y4⟩ := hbx.five
  obtain ⟨t0, t1, t2, t3, t4⟩ := PR5.out.five
  have x0 := (PR5.out.cell 0 (by simp)).2
  have x1 := (PR5.out.cell 1 (by simp)).2
  have x2 := (PR5.out.cell 2 (by simp)).2
  have x3 := (PR5.out.cell 3 (by simp)).2
  have x4 := (PR5.out.cell 4 (by simp)).2
  obtain ⟨as', ns, ks, es⟩ := hK5.sform
  subst es
  have op := put5_only w5 (w.heap.size + 1) (.slice d0 m0 j0) (.slice d1 m1 j1) (.slice d2 m2 j2) (.slice d3 m3 j3) (.int .i64 zz)
  have bx := put5_box PR5.out (.slice d0 m0 j0) (.slice d1 m1 j1) (.slice d2 m2 j2) (.slice d3 m3 j3) (.int .i64 zz)
  have hs6 := op.1
  have hS6 : ∀ g, S' g → w.heap.size + 2 ≤ g ∧ g < w5.heap.size := fun g hg => by
    rcases hS5 g hg with h | h
    · unfold Iv at h; omega
    · omega
  have HT6 : Hid (TuOwn S' (put5 w5 (w.heap.size + 1) (.slice d0 m0 j0) (.slice d1 m1 j1) (.slice d2 m2 j2) (.slice d3 m3 j3) (.int .i64 zz)) (.agg #[.slice d0 m0 j0, .slice d1 m1 j1, .slice d2 m2 j2, .slice d3 m3 j3, .int .i64 zz]) (stepD D)) := by
    have h := hC5.own
    rw [← hzz] at h
    exact h.at fun g hg _ => op.2.1 g (by have := hS6 g hg; omega)
  have HK6 : Hid (KOwnS (fun g => r.1 ≤ g ∧ g < r.2) (put5 w5 (w.heap.size + 1) (.slice d0 m0 j0) (.slice d1 m1 j1) (.slice d2 m2 j2) (.slice d3 m3 j3) (.int .i64 zz)) (.slice as' ns ks) (sendT D (atN D))) := ⟨r.1, r.2, hK5.onlyP op (fun g g1 g2 e => by have := hr5 g g1 g2; omega), fun g g1 g2 => ⟨g1, g2⟩⟩
  have HD6 : Hid (∀ g, S' g → (r.1 ≤ g ∧ g < r.2) → False) := fun g hg h => (hr5 g h.1 h.2).2 hg
  have HI6 : Hid (∀ g, S' g ∨ (r.1 ≤ g ∧ g < r.2) → w.heap.size ≤ g ∧ g < (put5 w5 (w.heap.size + 1) (.slice d0 m0 j0) (.slice d1 m1 j1) (.slice d2 m2 j2) (.slice d3 m3 j3) (.int .i64 zz)).heap.size) := fun g hg => by
    rw [hs6]
    rcases hg with hg | hg
    · have := hS6 g hg; omega
    · have := hr5 g hg.1 hg.2; omega
  have HB6 := hid (HB5.out.trans (op.below (lo := w.heap.size) fun j e => by omega))
  obtain ⟨z0, z1, z2, z3, z4⟩ := bx.five
  clear op bx hs6 hS6 hbx hC5 hK5 hr5 hS5 hb5 b5 hzz hok
  go_wp2
  exact bodyPost_ret (v := .tuple #[.agg #[.slice d0 m0 j0, .slice d1 m1 j1, .slice d2 m2 j2, .slice d3 m3 j3, .int .i64 zz], .slice as' ns ks, .bool true]) (by simp [results, Try.results34, go_sem, z0, z1, z2, z3, z4]) rfl ⟨_, _, _, _, rfl, HT6.out, HK6.out, HD6.out, HI6.out, HB6.out⟩
end Go.Proofs.Ytepnhbicmlfnhac
namespace Go.Proofs.Ytepnhbicmlfnhac
open Go.RowKit

def nextX (D : TuD) : TuD := bif nextOk D then stepD D else noT
def nextS (D : TuD) : List Int := bif nextOk D then sendT D (atN D) else []
def NextTells (f : Nat) : Prop := ∀ (v : Value) (D : TuD) (w : World), TuReads w v D → Calls Try.prog f #[v] w fun e w' => ∃ u p, e = .returned (.tuple #[u, p, .bool (nextOk D)]) ∧ TuReads w' u (nextX D) ∧ KReads w' p (nextS D) ∧ Below w.heap.size w w'
theorem snext_tells : NextTells 35 := by
  intro v D w hr
  unfold nextX nextS
  cases h : nextOk D with
  | true => exact (snext_yes v D w hr h).mono fun _ _ ⟨u, p, _, _, he, ho, hp, _, _, hb⟩ => ⟨u, p, he, ho.reads, hp.reads, hb⟩
  | false => exact (snext_no v D w hr h).mono fun _ _ ⟨u, p, _, _, he, ho, hp, _, _, hb⟩ => ⟨u, p, he, ho.reads, hp.reads, hb⟩
theorem inext_tells : NextTells 34 := by
  intro v D w hr
  unfold nextX nextS
  cases h : nextOk D with
  | true => exact (inext_yes v D w hr h).mono fun _ _ ⟨u, p, _, _, he, ho, hp, _, _, hb⟩ => ⟨u, p, he, ho.reads, hp.reads, hb⟩
  | false => exact (inext_no v D w hr h).mono fun _ _ ⟨u, p, _, _, he, ho, hp, _, _, hb⟩ => ⟨u, p, he, ho.reads, hp.reads, hb⟩
end Go.Proofs.Ytepnhbicmlfnhac
