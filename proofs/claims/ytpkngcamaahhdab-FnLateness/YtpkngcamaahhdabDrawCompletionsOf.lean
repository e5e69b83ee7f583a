/-
  spec.DrawCompletionsOf: whatever tasks and numbers it draws, in memory of their own. Nothing old is written.
-/
import Derived.Test.YtpkngcamaahhdabDrawLat
namespace Go.Proofs.Ytpkngcamaahhdab
open Go.RowKit

theorem drawCompletionsOf_any (v : Value) (w : World) (h : CodeOk w.heap.size w v) :
    Calls Try.prog 31 #[v] w fun e w' => ∃ u0 u1, e = .returned (.tuple #[u0, u1]) ∧ ∃ (xs : List TkEl) (ys : List Int), xs.length ≤ 42 ∧ ys.length = xs.length ∧ TkOwn w.heap.size w'.heap.size w' u0 xs ∧ KOwn w.heap.size w'.heap.size w' u1 ys ∧ Below w.heap.size w w' := by
  have H := hid h
  clear h
  go_enter Try.func31, Try.ntmps31
  go_wp2_with fail
  refine (drawLat_any v w H.out).mono ?_
  rintro e w1 ⟨u0, u1, rfl, xs, ys, hx, hy, o0, o1, b1⟩
  have O0 := hid o0
  have O1 := hid o1
  have B1 := hid b1
  have HY := hid hy
  clear o0 o1 b1 hy
  go_wp2
  go_ret2
  exact ⟨_, _, rfl, xs, ys, hx, HY.out, O0.out, O1.out, B1.out⟩
end Go.Proofs.Ytpkngcamaahhdab
