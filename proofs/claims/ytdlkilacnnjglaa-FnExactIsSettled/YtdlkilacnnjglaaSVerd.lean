/-
  spec.l16Verdict: whether a number is a verdict. Nothing is written.
-/
import Derived.Test.YtdlkilacnnjglaaSIn
import Derived.Test.YtdlkilacnnjglaaCoFns
namespace Go.Proofs.Ytdlkilacnnjglaa
open Go.RowKit

theorem l16Verdict_eq (z : Int) (t : Bool) (h : vdB z = t) (w : World) : Calls Try.prog 51 #[.int .i64 z] w fun e w' => e = .returned (.bool t) ∧ w' = w := by
  have HT : Hid (decide (0 ≤ z ∧ z ≤ 2) = t) := h
  clear h
  go_enter Try.func51, Try.ntmps51
  go_wp2_with fail
  refine (l1In_eq _ _ _ t HT.out _).mono ?_
  rintro e w' ⟨rfl, hw⟩; obtain rfl := hw.symm
  go_wp2
  go_ret
  exact ⟨rfl, rfl⟩
end Go.Proofs.Ytdlkilacnnjglaa
