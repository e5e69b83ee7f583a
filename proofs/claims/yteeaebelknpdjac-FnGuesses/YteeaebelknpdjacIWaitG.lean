/-
  impl.WaitOf: how long to wait, where the guess is good. Nothing old is written.
-/
import Derived.Test.YteeaebelknpdjacIGoodG
import Derived.Test.YteeaebelknpdjacIWholes
import Derived.Test.YteeaebelknpdjacIBuiltin9
import Derived.Test.YteeaebelknpdjacGuPow
import Derived.Deep.RegionWith
namespace Go.Proofs.Yteeaebelknpdjac
open Go.RowKit

set_option maxHeartbeats 4000000 in
theorem iwaitG_any (g : GuEl) (r : Bool) (h : goodG g = r) (v : Int) (hv : v = bif r then waitG g else 0) (w : World) : Calls Try.prog 54 #[guV g] w fun e w' => e = .returned (.tuple #[.int .i64 v, .bool r]) ∧ Below w.heap.size w w' := by
  have H1 := hid h
  have HV := hid hv
  clear h hv
  obtain ⟨gc, gf⟩ := galloc4 w g
  have b0 : Below w.heap.size w (w.alloc (.cells #[.int .i64 g.1, .int .i64 g.2.1, .int .i64 g.2.2.1, .int .i64 g.2.2.2] 72)) := (Below.refl _ _).alloc (Nat.le_refl _) _
  go_enter Try.func54, Try.ntmps54
  go_wp2_with fail
  refine (igoodG_eq g r H1.out _).mono ?_
  rintro e w1 ⟨rfl, hb⟩
  have C1 := hid (gc.below hb gc.lt)
  have B1 := hid (b0.trans (hb.mono b0.size))
  clear gc gf b0 hb
  cases r
  · obtain rfl : v = 0 := HV.out
    obtain ⟨g0, g1, g2, g3⟩ := C1.out
    go_wp2
    go_ret2
    exact ⟨rfl, B1.out⟩
  · obtain ⟨m, s, n, b⟩ := g
    obtain ⟨h1, h2, h3, h4, h5, h6, h7, h8⟩ := goodG_iff.1 H1.out
    simp only at h1 h2 h3 h4 h5 h6 h7 h8
    obtain ⟨q, hq⟩ : ∃ q, m / 8 = q := ⟨_, rfl⟩
    have ws : IntKind.i64.wrap (q + s) = q + s := by rw [IntKind.wrap_i64]; omega
    obtain ⟨a, ha⟩ : ∃ a, max 4 (q + s) = a := ⟨_, rfl⟩
    obtain ⟨k, hk⟩ : ∃ r, a * 2 ^ b.toNat = r := ⟨_, rfl⟩
    have hp := pow_back h7 h8
    have ha2 : 4 ≤ a ∧ a ≤ 5000 := by omega
    have hr1 : k ≤ 5000 * 64 := by rw [← hk]; exact Int.mul_le_mul ha2.2 hp.2 (by omega) (by omega)
    have hr0 : 4 * 1 ≤ k := by rw [← hk]; exact Int.mul_le_mul ha2.1 hp.1 (by omega) (by omega)
    have hsh : wrap64 (a * 2 ^ b.toNat) = k := by rw [hk]; unfold wrap64; omega
    have hmax := max9_run (q + s) 4 a (by omega)
    have hvv : min 400 k = v := by
      have : v = min 400 (max 4 (m / 8 + s) * 2 ^ b.toNat) := HV.out
      rw [this, hq, ha, hk]
    have hmin := min9_run k 400 v (by omega)
    have HQ := hid hq
    clear HV H1 hvv hr1 hr0 hp ha hk hq ha2
    obtain ⟨g0, g1, g2, g3⟩ := C1.out
    simp only at g0 g1 g2 g3
    go_wp2_with fail
    go_region_with (go_at_call 107; refine (wholes8 m q h1 h2 HQ.out _).mono ?_; rintro e w' ⟨rfl, hw⟩; obtain rfl := hw.symm)
    all_goals go_wp2
    all_goals go_ret2
    all_goals exact ⟨rfl, B1.out.drew⟩
end Go.Proofs.Yteeaebelknpdjac
