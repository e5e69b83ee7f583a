/-
  impl's method fill of a bucket in a box. Nothing but what it has is written.
-/
import Derived.Test.YtcieefggijjekazBkForm
import Derived.Test.YtcieefggijjekazOneCell
import Derived.Test.YtcieefggijjekazUntilMath
namespace Go.Proofs.Ytcieefggijjekaz
open Go.RowKit

theorem min7b_run (p q : Int) : ∀ (ts : Array TypeId) (ty : TypeId) (w : World), (Builtin.min_ ts ty #[.int .i64 p, .int .i64 q]).run Try.prog w = .ok (.int .i64 (mn7 p q)) w := fun ts ty w => by simp [Builtin.min_, Builtin.min2, mn7]
set_option maxHeartbeats 4000000 in
theorem ifill_any (b o : Nat) (r d q h2 : Int) (w : World) (hc : BkCells w b o (r, d, q)) (hf : BkFree w b o) (hq : 0 ≤ q ∧ q ≤ 60) (hr : 0 ≤ r ∧ r ≤ 60) (hh : lst7 d (q + r) = h2) :
    Calls Try.prog 45 #[.pointer (some ⟨b, o, none⟩)] w fun e w' => e = .returned (.tuple #[]) ∧ w'.cell? ⟨b, o + 2, none⟩ = some (.int .i64 h2) ∧ OneCell b (o + 2) w w' := by
  obtain ⟨c0, c1, c2⟩ := hc
  obtain ⟨f0, f1, f2⟩ := hf
  have hmin := min7b_run (q + r) d
  rw [mn7_comm, hh] at hmin
  have hw1 : IntKind.i64.wrap (q + r) = q + r := by rw [IntKind.wrap_i64]; omega
  have C2 := hid (World.cell?_setCell_same w ⟨b, o + 2, none⟩ (.int .i64 h2) c2)
  clear hh
  go_enter Try.func45, Try.ntmps45
  go_wp2_with fail
  go_big_region
  go_end0
  exact ⟨rfl, C2.out, (OneCell.set _ _ _ _).drew⟩
end Go.Proofs.Ytcieefggijjekaz
