/-
  laws.eqTurns: two that read alike are told to be the same. Nothing old is written.
-/
import Derived.Test.YtnnmiddhbeiogazKTurnsRows
import Derived.Test.YtnnmiddhbeiogazKIntEq
import Derived.Test.YtnnmiddhbeiogazQEq
namespace Go.Proofs.Ytnnmiddhbeiogaz
open Go.RowKit

set_option maxRecDepth 100000 in
set_option maxHeartbeats 8000000 in
theorem eqTurns_same (va vb : Value) (D : TuD) (w : World) (ha : TuReads w va D) (hb : TuReads w vb D) (hx : D.f1.length ≤ 1048576) :
    Calls Try.prog 27 #[va, vb] w fun e w' => e = .returned (.bool true) ∧ Below w.heap.size w w' := by
  obtain ⟨v0, v1, v2, v3, rfl, a0, a1, a2, a3⟩ := ha
  obtain ⟨u0, u1, u2, u3, rfl, b0, b1, b2, b3⟩ := hb
  have A0 := hid a0
  have B0 := hid b0
  have A1 := hid a1
  have B1 := hid b1
  have A2 := hid a2
  have B2 := hid b2
  have A3 := hid a3
  have B3 := hid b3
  clear a0 a1 a2 a3 b0 b1 b2 b3
  have P0 := hid (boxL_new w [v0, v1, v2, v3, .int .i64 D.f4] 45)
  have Q0 := hid (boxL_new (w.alloc (.cells #[v0, v1, v2, v3, .int .i64 D.f4] 45)) [u0, u1, u2, u3, .int .i64 D.f4] 45)
  rw [World.size_alloc] at Q0
  have P1 := hid (P0.out.below ((Below.refl _ _).alloc (Nat.le_refl _) (.cells #[u0, u1, u2, u3, .int .i64 D.f4] 45)) (by simp))
  clear P0
  have B : Hid (Below w.heap.size w ((w.alloc (.cells #[v0, v1, v2, v3, .int .i64 D.f4] 45)).alloc (.cells #[u0, u1, u2, u3, .int .i64 D.f4] 45))) := ((Below.refl _ _).alloc (Nat.le_refl _) _).alloc (by simp) _
  go_enter Try.func27, Try.ntmps27
  have p := (P1.out.cell 0 (by simp)).1
  have q := (Q0.out.cell 0 (by simp)).1
  change World.cell? _ _ = some v0 at p
  change World.cell? _ _ = some u0 at q
  go_wp2_with fail
  refine (keqIntS_same _ _ D.f0 _ (A0.out.below B.out) (B0.out.below B.out)).mono ?_
  rintro e w1 ⟨rfl, b⟩
  have P2 := hid (P1.out.below b P1.out.lt)
  have Q2 := hid (Q0.out.below b Q0.out.lt)
  replace B : Hid (Below w.heap.size w w1) := B.out.trans (b.mono B.out.size)
  clear b p q P1 Q0
  have p := (P2.out.cell 1 (by simp)).1
  have q := (Q2.out.cell 1 (by simp)).1
  change World.cell? _ _ = some v1 at p
  change World.cell? _ _ = some u1 at q
  go_wp2_with fail
  refine (eqIntSS_same _ _ D.f1 _ (A1.out.below B.out) (B1.out.below B.out) hx).mono ?_
  rintro e w2 ⟨rfl, b⟩
  have P3 := hid (P2.out.below b P2.out.lt)
  have Q3 := hid (Q2.out.below b Q2.out.lt)
  replace B : Hid (Below w.heap.size w w2) := B.out.trans (b.mono B.out.size)
  clear b p q P2 Q2
  have p := (P3.out.cell 2 (by simp)).1
  have q := (Q3.out.cell 2 (by simp)).1
  change World.cell? _ _ = some v2 at p
  change World.cell? _ _ = some u2 at q
  go_wp2_with fail
  refine (keqIntS_same _ _ D.f2 _ (A2.out.below B.out) (B2.out.below B.out)).mono ?_
  rintro e w3 ⟨rfl, b⟩
  have P4 := hid (P3.out.below b P3.out.lt)
  have Q4 := hid (Q3.out.below b Q3.out.lt)
  replace B : Hid (Below w.heap.size w w3) := B.out.trans (b.mono B.out.size)
  clear b p q P3 Q3
  have p := (P4.out.cell 3 (by simp)).1
  have q := (Q4.out.cell 3 (by simp)).1
  change World.cell? _ _ = some v3 at p
  change World.cell? _ _ = some u3 at q
  go_wp2_with fail
  refine (keqIntS_same _ _ D.f3 _ (A3.out.below B.out) (B3.out.below B.out)).mono ?_
  rintro e w4 ⟨rfl, b⟩
  have P5 := hid (P4.out.below b P4.out.lt)
  have Q5 := hid (Q4.out.below b Q4.out.lt)
  replace B : Hid (Below w.heap.size w w4) := B.out.trans (b.mono B.out.size)
  clear b p q P4 Q4
  have p4 := (P5.out.cell 4 (by simp)).1
  have q4 := (Q5.out.cell 4 (by simp)).1
  change World.cell? _ _ = some (.int .i64 D.f4) at p4
  change World.cell? _ _ = some (.int .i64 D.f4) at q4
  go_wp2
  go_ret
  exact ⟨rfl, B.out⟩
end Go.Proofs.Ytnnmiddhbeiogaz
