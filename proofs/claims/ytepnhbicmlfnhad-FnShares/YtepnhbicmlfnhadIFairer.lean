/-
  impl.IsFairer: which of two shares is fairer. Nothing old is written.
-/
import Derived.Test.YtepnhbicmlfnhadIFair
namespace Go.Proofs.Ytepnhbicmlfnhad
open Go.RowKit

def frI (A B : ShD) : Bool := bothS A B && fairerB A B
set_option maxRecDepth 100000 in
set_option maxHeartbeats 8000000 in
theorem ifairer_any (v u : Value) (A B : ShD) (w : World) (ha : ShReads w v A) (hb : ShReads w u B) (r t : Bool) (hr : frI A B = r) (ht : bothS A B = t) :
    Calls Try.prog 16 #[v, u] w fun e w' => e = .returned (.tuple #[.bool r, .bool t]) ∧ Below w.heap.size w w' := by
  have HA := hid ha
  have HB := hid hb
  have HR := hid hr
  have HT := hid ht
  obtain ⟨v0, rfl, r0⟩ := ha
  obtain ⟨u0, rfl, s0⟩ := hb
  obtain ⟨a0, p0, rfl, l0, _⟩ := r0
  obtain ⟨a1, p1, rfl, l1, _⟩ := s0
  obtain ⟨z, hz⟩ : ∃ z, z = A.f1 := ⟨_, rfl⟩
  obtain ⟨y, hy⟩ : ∃ y, y = B.f1 := ⟨_, rfl⟩
  rw [← hz] at HA ⊢
  rw [← hy] at HB ⊢
  obtain ⟨t1, e1⟩ : ∃ b, goodS A = b := ⟨_, rfl⟩
  obtain ⟨t2, e2⟩ : ∃ b, goodS B = b := ⟨_, rfl⟩
  have E1 := hid e1
  have E2 := hid e2
  have PA := hid (boxL_new w [.slice a0 A.f0.length p0, .int .i64 z] 25)
  have PB := hid (boxL_new (w.alloc (.cells #[.slice a0 A.f0.length p0, .int .i64 z] 25)) [.slice a1 B.f0.length p1, .int .i64 y] 25)
  replace PA := hid (PA.out.below ((Below.refl _ _).alloc (Nat.le_refl _) (.cells #[.slice a1 B.f0.length p1, .int .i64 y] 25)) PA.out.lt)
  rw [World.size_alloc] at PB
  have BW : Hid (Below w.heap.size w ((w.alloc (.cells #[.slice a0 A.f0.length p0, .int .i64 z] 25)).alloc (.cells #[.slice a1 B.f0.length p1, .int .i64 y] 25))) := ((Below.refl _ _).alloc (Nat.le_refl _) _).alloc (by simp) _
  obtain ⟨q0, q1⟩ := PA.out.two
  obtain ⟨q2, q3⟩ := PB.out.two
  clear e1 e2 hr ht hz hy
  go_enter Try.func16, Try.ntmps16
  go_wp2_with fail
  refine (ifair_any _ A _ (HA.out.below BW.out) _ _ t1 rfl rfl E1.out).mono ?_
  rintro e w1 ⟨rfl, b1⟩
  replace BW := hid (BW.out.trans (b1.mono BW.out.size))
  replace PA := hid (PA.out.below b1 PA.out.lt)
  replace PB := hid (PB.out.below b1 PB.out.lt)
  clear q0 q1 q2 q3 b1
  obtain ⟨q0, q1⟩ := PA.out.two
  obtain ⟨q2, q3⟩ := PB.out.two
  obtain ⟨pa, hpa⟩ : ∃ p, fpI A = p := ⟨_, rfl⟩
  obtain ⟨qa, hqa⟩ : ∃ p, fqI A = p := ⟨_, rfl⟩
  rw [hpa, hqa]
  have HPA := hid hpa
  have HQA := hid hqa
  clear hpa hqa
  go_wp2_with fail
  refine (ifair_any _ B _ (HB.out.below BW.out) _ _ t2 rfl rfl E2.out).mono ?_
  rintro e w2 ⟨rfl, b2⟩
  replace BW := hid (BW.out.trans (b2.mono BW.out.size))
  replace PA := hid (PA.out.below b2 PA.out.lt)
  replace PB := hid (PB.out.below b2 PB.out.lt)
  clear q0 q1 q2 q3 b2
  obtain ⟨q0, q1⟩ := PA.out.two
  obtain ⟨q2, q3⟩ := PB.out.two
  obtain ⟨pb, hpb⟩ : ∃ p, fpI B = p := ⟨_, rfl⟩
  obtain ⟨qb, hqb⟩ : ∃ p, fqI B = p := ⟨_, rfl⟩
  rw [hpb, hqb]
  have HPB := hid hpb
  have HQB := hid hqb
  clear hpb hqb
  cases t1
  · have HV : Hid (t = false) := by show _ = _; rw [← HT.out]; unfold bothS; rw [E1.out]; rfl
    have HV2 : Hid (r = false) := by show _ = _; rw [← HR.out]; unfold frI bothS; rw [E1.out]; rfl
    go_wp2
    go_ret2
    exact ⟨by rw [HV.out, HV2.out]; rfl, BW.out⟩
  cases t2
  · have HV : Hid (t = false) := by show _ = _; rw [← HT.out]; unfold bothS; rw [E1.out, E2.out]; rfl
    have HV2 : Hid (r = false) := by show _ = _; rw [← HR.out]; unfold frI bothS; rw [E1.out, E2.out]; rfl
    go_wp2
    go_ret2
    exact ⟨by rw [HV.out, HV2.out]; rfl, BW.out⟩
  by_cases hl : A.f0.length = B.f0.length
  rotate_left
  · have hd : ((A.f0.length : Int) != (B.f0.length : Int)) = true := by rw [bne_iff_ne]; omega
    have HV : Hid (t = false) := by show _ = _; rw [← HT.out]; unfold bothS; rw [E1.out, E2.out, decide_eq_false hl]; rfl
    have HV2 : Hid (r = false) := by show _ = _; rw [← HR.out]; unfold frI bothS; rw [E1.out, E2.out, decide_eq_false hl]; rfl
    clear hl
    go_wp2
    go_ret2
    exact ⟨by rw [HV.out, HV2.out]; rfl, BW.out⟩
  have hd : ((A.f0.length : Int) != (B.f0.length : Int)) = false := by rw [bne_eq_false_iff_eq]; omega
  have HV : Hid (t = true) := by show _ = _; rw [← HT.out]; unfold bothS; rw [E1.out, E2.out, decide_eq_true hl]; rfl
  have HV2 : Hid (r = fairerB A B) := by show _ = _; rw [← HR.out]; unfold frI bothS; rw [E1.out, E2.out, decide_eq_true hl]; rfl
  clear hl
  have hpa : fairP A = pa := by rw [← HPA.out]; unfold fpI; rw [E1.out]; rfl
  have hqa : fairQ A = qa := by rw [← HQA.out]; unfold fqI; rw [E1.out]; rfl
  have hpb : fairP B = pb := by rw [← HPB.out]; unfold fpI; rw [E2.out]; rfl
  have hqb : fairQ B = qb := by rw [← HQB.out]; unfold fqI; rw [E2.out]; rfl
  have FA := ((goodS_iff A).1 E1.out).fair
  have FB := ((goodS_iff B).1 E2.out).fair
  rw [hpa, hqa] at FA
  rw [hpb, hqb] at FB
  have m1 := fair_mul FA.1.1 FA.1.2 FB.2.1 FB.2.2
  have m2 := fair_mul FB.1.1 FB.1.2 FA.2.1 FA.2.2
  obtain ⟨x1, hx1⟩ : ∃ x, x = pa * qb := ⟨_, rfl⟩
  obtain ⟨x2, hx2⟩ : ∃ x, x = pb * qa := ⟨_, rfl⟩
  have hw1 : IntKind.i64.wrap (pa * qb) = x1 := by rw [IntKind.wrap_i64]; omega
  have hw2 : IntKind.i64.wrap (pb * qa) = x2 := by rw [IntKind.wrap_i64]; omega
  have HV3 : Hid (r = decide (x2 < x1)) := by show _ = _; rw [HV2.out, hx1, hx2]; unfold fairerB; rw [hpa, hqa, hpb, hqb]
  clear hpa hqa hpb hqb FA FB m1 m2 hx1 hx2 HV2
  go_wp2
  go_ret2
  exact ⟨by rw [HV.out, HV3.out]; first | rfl | simp, BW.out⟩
end Go.Proofs.Ytepnhbicmlfnhad
