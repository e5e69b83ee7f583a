/-
  laws.eqBlock: two that read alike are told to be the same. Nothing old is written.
-/
import Derived.Test.YtnkpboobfkjibakKBlockRows
import Derived.Test.YtnkpboobfkjibakKSpanE1
namespace Go.Proofs.Ytnkpboobfkjibak
open Go.RowKit

set_option maxRecDepth 100000 in
set_option maxHeartbeats 8000000 in
theorem eqBlock_same (va vb : Value) (D : BlD) (w : World) (ha : BlReads w va D) (hb : BlReads w vb D) :
    Calls Try.prog 21 #[va, vb] w fun e w' => e = .returned (.bool true) ∧ Below w.heap.size w w' := by
  obtain ⟨v3, rfl, a3⟩ := ha
  obtain ⟨u3, rfl, b3⟩ := hb
  have A3 := hid a3
  have B3 := hid b3
  clear a3 b3
  have P0 := hid (boxL_new w [.int .i64 D.f0, .int .i64 D.f1, .string D.f2, v3] 37)
  have Q0 := hid (boxL_new (w.alloc (.cells #[.int .i64 D.f0, .int .i64 D.f1, .string D.f2, v3] 37)) [.int .i64 D.f0, .int .i64 D.f1, .string D.f2, u3] 37)
  rw [World.size_alloc] at Q0
  have P1 := hid (P0.out.below ((Below.refl _ _).alloc (Nat.le_refl _) (.cells #[.int .i64 D.f0, .int .i64 D.f1, .string D.f2, u3] 37)) (by simp))
  clear P0
  have B : Hid (Below w.heap.size w ((w.alloc (.cells #[.int .i64 D.f0, .int .i64 D.f1, .string D.f2, v3] 37)).alloc (.cells #[.int .i64 D.f0, .int .i64 D.f1, .string D.f2, u3] 37))) := ((Below.refl _ _).alloc (Nat.le_refl _) _).alloc (by simp) _
  go_enter Try.func21, Try.ntmps21
  have p := (P1.out.cell 3 (by simp)).1
  have q := (Q0.out.cell 3 (by simp)).1
  change World.cell? _ _ = some v3 at p
  change World.cell? _ _ = some u3 at q
  go_wp2_with fail
  refine (eqSpanS_same _ _ D.f3 _ (A3.out.below B.out) (B3.out.below B.out)).mono ?_
  rintro e w1 ⟨rfl, b⟩
  have P2 := hid (P1.out.below b P1.out.lt)
  have Q2 := hid (Q0.out.below b Q0.out.lt)
  replace B : Hid (Below w.heap.size w w1) := B.out.trans (b.mono B.out.size)
  clear b p q P1 Q0
  have p0 := (P2.out.cell 0 (by simp)).1
  have q0 := (Q2.out.cell 0 (by simp)).1
  change World.cell? _ _ = some (.int .i64 D.f0) at p0
  change World.cell? _ _ = some (.int .i64 D.f0) at q0
  have p1 := (P2.out.cell 1 (by simp)).1
  have q1 := (Q2.out.cell 1 (by simp)).1
  change World.cell? _ _ = some (.int .i64 D.f1) at p1
  change World.cell? _ _ = some (.int .i64 D.f1) at q1
  have p2 := (P2.out.cell 2 (by simp)).1
  have q2 := (Q2.out.cell 2 (by simp)).1
  change World.cell? _ _ = some (.string D.f2) at p2
  change World.cell? _ _ = some (.string D.f2) at q2
  go_wp2
  go_ret
  exact ⟨rfl, B.out⟩
end Go.Proofs.Ytnkpboobfkjibak
