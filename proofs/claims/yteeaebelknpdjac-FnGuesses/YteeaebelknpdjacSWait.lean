/-
  spec.l9Wait: how long to wait. Nothing old is written.
-/
import Derived.Test.YteeaebelknpdjacSLeast9
import Derived.Test.YteeaebelknpdjacSMost9
import Derived.Test.YteeaebelknpdjacGuForm
import Derived.Test.YteeaebelknpdjacGuPow
namespace Go.Proofs.Yteeaebelknpdjac
open Go.RowKit

set_option maxHeartbeats 2000000 in
theorem swait_any (g : GuEl) (hg : GoodG g) (w : World) : Calls Try.prog 108 #[guV g] w fun e w' => e = .returned (.int .i64 (waitG g)) ∧ Below w.heap.size w w' := by
  obtain ⟨m, s, n, b⟩ := g
  obtain ⟨h1, h2, h3, h4, h5, h6, h7, h8⟩ := hg
  simp only at h1 h2 h3 h4 h5 h6 h7 h8
  obtain ⟨q, hq⟩ : ∃ q, m / 8 = q := ⟨_, rfl⟩
  have q1 : m.tdiv 8 = q := by rw [Int.tdiv_eq_ediv_of_nonneg h1]; exact hq
  have wq : IntKind.i64.wrap q = q := by rw [IntKind.wrap_i64]; omega
  have ws : IntKind.i64.wrap (q + s) = q + s := by rw [IntKind.wrap_i64]; omega
  obtain ⟨a, ha⟩ : ∃ a, max 4 (q + s) = a := ⟨_, rfl⟩
  obtain ⟨r, hr⟩ : ∃ r, a * 2 ^ b.toNat = r := ⟨_, rfl⟩
  obtain ⟨v, hv⟩ : ∃ v, min 400 r = v := ⟨_, rfl⟩
  have hp := pow_back h7 h8
  have ha2 : 4 ≤ a ∧ a ≤ 5000 := by omega
  have hr1 : r ≤ 5000 * 64 := by rw [← hr]; exact Int.mul_le_mul ha2.2 hp.2 (by omega) (by omega)
  have hr0 : 4 * 1 ≤ r := by rw [← hr]; exact Int.mul_le_mul ha2.1 hp.1 (by omega) (by omega)
  have hsh : wrap64 (a * 2 ^ b.toNat) = r := by rw [hr]; unfold wrap64; omega
  have wb : IntKind.u64.wrap b = b := by rw [IntKind.wrap_u64]; omega
  have HR : Hid (waitG (m, s, n, b) = v) := by show min 400 (max 4 (m / 8 + s) * 2 ^ b.toNat) = v; rw [hq, ha, hr, hv]
  have HA := hid ha
  have HV := hid hv
  rw [HR.out]
  clear HR ha hv hp hr1 hr0 hr
  show Calls Try.prog 108 #[.agg #[.int .i64 m, .int .i64 s, .int .i64 n, .int .i64 b]] w fun e w' => e = .returned (.int .i64 v) ∧ Below w.heap.size w w'
  go_enter Try.func108, Try.ntmps108
  go_wp2_with fail
  refine (smost_eq 4 (q + s) a HA.out _).mono ?_
  rintro e w' ⟨rfl, hw⟩; obtain rfl := hw.symm
  go_wp2_with fail
  refine (sleast_eq 400 r v HV.out _).mono ?_
  rintro e w' ⟨rfl, hw⟩; obtain rfl := hw.symm
  go_wp2
  go_ret
  exact ⟨rfl, by go_grown⟩
end Go.Proofs.Yteeaebelknpdjac
