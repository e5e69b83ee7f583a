/-
  impl's method take of a bucket in a box. Nothing but what it has is written.
-/
import Derived.Test.YtcieefggijjekacBkForm
import Derived.Test.YtcieefggijjekacOneCell
namespace Go.Proofs.Ytcieefggijjekac
open Go.RowKit

set_option maxHeartbeats 4000000 in
theorem itake_any (b o : Nat) (r d q n : Int) (w : World) (hc : BkCells w b o (r, d, q)) (hf : BkFree w b o) (hq : 0 ≤ q ∧ q ≤ 60) (hn : 0 ≤ n ∧ n ≤ q) :
    Calls Try.prog 44 #[.pointer (some ⟨b, o, none⟩), .int .i64 n] w fun e w' => e = .returned (.tuple #[]) ∧ w'.cell? ⟨b, o + 2, none⟩ = some (.int .i64 (q - n)) ∧ OneCell b (o + 2) w w' := by
  obtain ⟨c0, c1, c2⟩ := hc
  obtain ⟨f0, f1, f2⟩ := hf
  have hw1 : IntKind.i64.wrap (q - n) = q - n := by rw [IntKind.wrap_i64]; omega
  have C2 := hid (World.cell?_setCell_same w ⟨b, o + 2, none⟩ (.int .i64 (q - n)) c2)
  go_enter Try.func44, Try.ntmps44
  go_wp2
  go_end0
  exact ⟨rfl, C2.out, OneCell.set _ _ _ _⟩
end Go.Proofs.Ytcieefggijjekac
