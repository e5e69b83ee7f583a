/-
  laws.eqCourt: two that read alike are told to be the same. Nothing old is written.
-/
import Derived.Test.YtdlkilacnnjglaaKCourtRows
import Derived.Test.YtdlkilacnnjglaaKCaseEq
import Derived.Test.YtdlkilacnnjglaaKSlipEq
namespace Go.Proofs.Ytdlkilacnnjglaa
open Go.RowKit

set_option maxRecDepth 100000 in
set_option maxHeartbeats 8000000 in
theorem eqCourt_same (va vb : Value) (D : CoD) (w : World) (ha : CoReads w va D) (hb : CoReads w vb D) :
    Calls Try.prog 12 #[va, vb] w fun e w' => e = .returned (.bool true) ∧ Below w.heap.size w w' := by
  obtain ⟨v1, v2, rfl, a1, a2⟩ := ha
  obtain ⟨u1, u2, rfl, b1, b2⟩ := hb
  have A1 := hid a1
  have B1 := hid b1
  have A2 := hid a2
  have B2 := hid b2
  clear a1 a2 b1 b2
  have P0 := hid (boxL_new w [.int .i64 D.f0, v1, v2] 26)
  have Q0 := hid (boxL_new (w.alloc (.cells #[.int .i64 D.f0, v1, v2] 26)) [.int .i64 D.f0, u1, u2] 26)
  rw [World.size_alloc] at Q0
  have P1 := hid (P0.out.below ((Below.refl _ _).alloc (Nat.le_refl _) (.cells #[.int .i64 D.f0, u1, u2] 26)) (by simp))
  clear P0
  have B : Hid (Below w.heap.size w ((w.alloc (.cells #[.int .i64 D.f0, v1, v2] 26)).alloc (.cells #[.int .i64 D.f0, u1, u2] 26))) := ((Below.refl _ _).alloc (Nat.le_refl _) _).alloc (by simp) _
  go_enter Try.func12, Try.ntmps12
  have p := (P1.out.cell 1 (by simp)).1
  have q := (Q0.out.cell 1 (by simp)).1
  change World.cell? _ _ = some v1 at p
  change World.cell? _ _ = some u1 at q
  go_wp2_with fail
  refine (eqCaseS_same _ _ D.f1 _ (A1.out.below B.out) (B1.out.below B.out)).mono ?_
  rintro e w1 ⟨rfl, b⟩
  have P2 := hid (P1.out.below b P1.out.lt)
  have Q2 := hid (Q0.out.below b Q0.out.lt)
  replace B : Hid (Below w.heap.size w w1) := B.out.trans (b.mono B.out.size)
  clear b p q P1 Q0
  have p := (P2.out.cell 2 (by simp)).1
  have q := (Q2.out.cell 2 (by simp)).1
  change World.cell? _ _ = some v2 at p
  change World.cell? _ _ = some u2 at q
  go_wp2_with fail
  refine (eqSlipS_same _ _ D.f2 _ (A2.out.below B.out) (B2.out.below B.out)).mono ?_
  rintro e w2 ⟨rfl, b⟩
  have P3 := hid (P2.out.below b P2.out.lt)
  have Q3 := hid (Q2.out.below b Q2.out.lt)
  replace B : Hid (Below w.heap.size w w2) := B.out.trans (b.mono B.out.size)
  clear b p q P2 Q2
  have p0 := (P3.out.cell 0 (by simp)).1
  have q0 := (Q3.out.cell 0 (by simp)).1
  change World.cell? _ _ = some (.int .i64 D.f0) at p0
  change World.cell? _ _ = some (.int .i64 D.f0) at q0
  go_wp2
  go_ret
  exact ⟨rfl, B.out⟩
end Go.Proofs.Ytdlkilacnnjglaa
