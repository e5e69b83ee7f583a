/-
  The law FnExactWaitOf answers true at every argument, where both sides tell alike.
-/
import Derived.Test.YteeaebelknpdjbbKGuessTo
import Derived.Test.YteeaebelknpdjbbGuForm
import Derived.OwnWalk
namespace Go.Proofs.Yteeaebelknpdjbb
open Go.RowKit

theorem FnExactWaitOf_boxG (w : World) (x : GuEl) : GuCells (w.alloc (.cells #[.int .i64 x.1, .int .i64 x.2.1, .int .i64 x.2.2.1, .int .i64 x.2.2.2] 28)) w.heap.size x := by
  refine ⟨?_, ?_, ?_, ?_⟩ <;> simp
set_option maxHeartbeats 8000000 in
theorem FnExactWaitOf_law (x0 : GuEl) (w : World) (r0 : Int) (r1 : Bool)
    (HS : ∀ (w : World), Calls Try.prog 18 #[(.agg #[.int .i64 x0.1, .int .i64 x0.2.1, .int .i64 x0.2.2.1, .int .i64 x0.2.2.2])] w fun e w' => e = .returned (.tuple #[.int .i64 r0, .bool r1]) ∧ Below w.heap.size w w')
    (HI : ∀ (w : World), Calls Try.prog 19 #[(.agg #[.int .i64 x0.1, .int .i64 x0.2.1, .int .i64 x0.2.2.1, .int .i64 x0.2.2.2])] w fun e w' => e = .returned (.tuple #[.int .i64 r0, .bool r1]) ∧ Below w.heap.size w w') :
    Calls Try.prog 6 #[(.agg #[.int .i64 x0.1, .int .i64 x0.2.1, .int .i64 x0.2.2.1, .int .i64 x0.2.2.2])] w fun e w' => e = .returned (.bool true) ∧ Below w.heap.size w w' := by
  have HS' := hid HS
  have HI' := hid HI
  clear HS HI
  go_enter Try.func6, Try.ntmps6
  have B : Hid (Below w.heap.size w w) := Below.refl _ _
  have b : Below w.heap.size w (w.alloc (.cells #[.int .i64 x0.1, .int .i64 x0.2.1, .int .i64 x0.2.2.1, .int .i64 x0.2.2.2] 28)) := (Below.refl _ _).alloc (Nat.le_refl _) _
  have KG : Hid (GuCells (w.alloc (.cells #[.int .i64 x0.1, .int .i64 x0.2.1, .int .i64 x0.2.2.1, .int .i64 x0.2.2.2] 28)) w.heap.size x0) := FnExactWaitOf_boxG _ _
  replace B : Hid (Below w.heap.size w (w.alloc (.cells #[.int .i64 x0.1, .int .i64 x0.2.1, .int .i64 x0.2.2.1, .int .i64 x0.2.2.2] 28))) := B.out.trans (b.mono B.out.size)
  clear b
  obtain ⟨q00, q01, q02, q03⟩ := KG.out
  go_wp2_with fail
  refine (toGuess_any x0.1 x0.2.1 x0.2.2.1 x0.2.2.2 _).mono ?_
  rintro e w1 ⟨rfl, b⟩
  replace KG := hid (KG.out.below b KG.out.lt)
  replace B : Hid (Below w.heap.size w w1) := B.out.trans (b.mono B.out.size)
  clear b q00 q01 q02 q03
  obtain ⟨q00, q01, q02, q03⟩ := KG.out
  go_wp2_with fail
  refine (HS'.out _).mono ?_
  rintro e w2 ⟨rfl, b⟩
  replace KG := hid (KG.out.below b KG.out.lt)
  replace B : Hid (Below w.heap.size w w2) := B.out.trans (b.mono B.out.size)
  clear b q00 q01 q02 q03
  obtain ⟨q00, q01, q02, q03⟩ := KG.out
  go_wp2_with fail
  refine (toGuess_any x0.1 x0.2.1 x0.2.2.1 x0.2.2.2 _).mono ?_
  rintro e w3 ⟨rfl, b⟩
  replace KG := hid (KG.out.below b KG.out.lt)
  replace B : Hid (Below w.heap.size w w3) := B.out.trans (b.mono B.out.size)
  clear b q00 q01 q02 q03
  obtain ⟨q00, q01, q02, q03⟩ := KG.out
  go_wp2_with fail
  refine (HI'.out _).mono ?_
  rintro e w4 ⟨rfl, b⟩
  replace KG := hid (KG.out.below b KG.out.lt)
  replace B : Hid (Below w.heap.size w w4) := B.out.trans (b.mono B.out.size)
  clear b q00 q01 q02 q03
  go_wp2
  go_ret
  exact ⟨rfl, B.out⟩
end Go.Proofs.Yteeaebelknpdjbb
