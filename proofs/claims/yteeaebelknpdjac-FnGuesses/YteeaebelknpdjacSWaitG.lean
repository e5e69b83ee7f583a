/-
  spec.WaitOf: how long to wait, where the guess is good. Nothing old is written.
-/
import Derived.Test.YteeaebelknpdjacSGoodG
import Derived.Test.YteeaebelknpdjacSWait
namespace Go.Proofs.Yteeaebelknpdjac
open Go.RowKit

set_option maxHeartbeats 2000000 in
theorem swaitG_any (g : GuEl) (r : Bool) (h : goodG g = r) (v : Int) (hv : v = bif r then waitG g else 0) (w : World) : Calls Try.prog 55 #[guV g] w fun e w' => e = .returned (.tuple #[.int .i64 v, .bool r]) ∧ Below w.heap.size w w' := by
  have H1 := hid h
  have HV := hid hv
  clear h hv
  obtain ⟨gc, gf⟩ := galloc4 w g
  have b0 : Below w.heap.size w (w.alloc (.cells #[.int .i64 g.1, .int .i64 g.2.1, .int .i64 g.2.2.1, .int .i64 g.2.2.2] 72)) := (Below.refl _ _).alloc (Nat.le_refl _) _
  go_enter Try.func55, Try.ntmps55
  go_wp2_with fail
  refine (sgoodG_eq g r H1.out _).mono ?_
  rintro e w1 ⟨rfl, hb⟩
  have C1 := hid (gc.below hb gc.lt)
  have B1 := hid (b0.trans (hb.mono b0.size))
  clear gc gf b0 hb
  obtain ⟨g0, g1, g2, g3⟩ := C1.out
  cases r
  · obtain rfl : v = 0 := HV.out
    go_wp2
    go_ret2
    exact ⟨rfl, B1.out⟩
  · have hv : waitG g = v := HV.out.symm
    go_wp2_with fail
    refine (swait_any g (goodG_iff.1 H1.out) _).mono ?_
    rintro e w2 ⟨rfl, hb⟩
    rw [hv]
    have B2 := hid (B1.out.trans (hb.mono B1.out.size))
    clear hb
    go_wp2
    go_ret2
    exact ⟨rfl, B2.out⟩
end Go.Proofs.Yteeaebelknpdjac
