/-
  laws.eqShares: two that read alike are told to be the same. Nothing old is written.
-/
import Derived.Test.YtepnhbicmlfnhafKSharesRows
import Derived.Test.YtepnhbicmlfnhafKIntEq
namespace Go.Proofs.Ytepnhbicmlfnhaf
open Go.RowKit

set_option maxRecDepth 100000 in
set_option maxHeartbeats 8000000 in
theorem eqShares_same (va vb : Value) (D : ShD) (w : World) (ha : ShReads w va D) (hb : ShReads w vb D) :
    Calls Try.prog 8 #[va, vb] w fun e w' => e = .returned (.bool true) ∧ Below w.heap.size w w' := by
  obtain ⟨v0, rfl, a0⟩ := ha
  obtain ⟨u0, rfl, b0⟩ := hb
  have A0 := hid a0
  have B0 := hid b0
  clear a0 b0
  have P0 := hid (boxL_new w [v0, .int .i64 D.f1] 27)
  have Q0 := hid (boxL_new (w.alloc (.cells #[v0, .int .i64 D.f1] 27)) [u0, .int .i64 D.f1] 27)
  rw [World.size_alloc] at Q0
  have P1 := hid (P0.out.below ((Below.refl _ _).alloc (Nat.le_refl _) (.cells #[u0, .int .i64 D.f1] 27)) (by simp))
  clear P0
  have B : Hid (Below w.heap.size w ((w.alloc (.cells #[v0, .int .i64 D.f1] 27)).alloc (.cells #[u0, .int .i64 D.f1] 27))) := ((Below.refl _ _).alloc (Nat.le_refl _) _).alloc (by simp) _
  go_enter Try.func8, Try.ntmps8
  have p := (P1.out.cell 0 (by simp)).1
  have q := (Q0.out.cell 0 (by simp)).1
  change World.cell? _ _ = some v0 at p
  change World.cell? _ _ = some u0 at q
  go_wp2_with fail
  refine (keqIntS_same _ _ D.f0 _ (A0.out.below B.out) (B0.out.below B.out)).mono ?_
  rintro e w1 ⟨rfl, b⟩
  have P2 := hid (P1.out.below b P1.out.lt)
  have Q2 := hid (Q0.out.below b Q0.out.lt)
  replace B : Hid (Below w.heap.size w w1) := B.out.trans (b.mono B.out.size)
  clear b p q P1 Q0
  have p1 := (P2.out.cell 1 (by simp)).1
  have q1 := (Q2.out.cell 1 (by simp)).1
  change World.cell? _ _ = some (.int .i64 D.f1) at p1
  change World.cell? _ _ = some (.int .i64 D.f1) at q1
  go_wp2
  go_ret
  exact ⟨rfl, B.out⟩
end Go.Proofs.Ytepnhbicmlfnhaf
