/-
  The law FnExactNewGuess answers true at every argument, where both sides tell alike.
-/
import Derived.Test.YteeaebelknpdjbbKGuessToEq
import Derived.Test.YteeaebelknpdjbbGuForm
import Derived.OwnWalk
namespace Go.Proofs.Yteeaebelknpdjbb
open Go.RowKit

theorem FnExactNewGuess_boxR (w : World) (x : GuEl) : GuCells (w.alloc (.cells #[.int .i64 x.1, .int .i64 x.2.1, .int .i64 x.2.2.1, .int .i64 x.2.2.2] 23)) w.heap.size x := by
  refine ⟨?_, ?_, ?_, ?_⟩ <;> simp
set_option maxHeartbeats 8000000 in
theorem FnExactNewGuess_law (n0 : Int) (w : World) (r0 : GuEl) (r1 : Bool)
    (HS : ∀ (w : World), Calls Try.prog 9 #[.int .i64 n0] w fun e w' => e = .returned (.tuple #[(.agg #[.int .i64 r0.1, .int .i64 r0.2.1, .int .i64 r0.2.2.1, .int .i64 r0.2.2.2]), .bool r1]) ∧ Below w.heap.size w w')
    (HI : ∀ (w : World), Calls Try.prog 10 #[.int .i64 n0] w fun e w' => e = .returned (.tuple #[(.agg #[.int .i64 r0.1, .int .i64 r0.2.1, .int .i64 r0.2.2.1, .int .i64 r0.2.2.2]), .bool r1]) ∧ Below w.heap.size w w') :
    Calls Try.prog 3 #[.int .i64 n0] w fun e w' => e = .returned (.bool true) ∧ Below w.heap.size w w' := by
  have HS' := hid HS
  have HI' := hid HI
  clear HS HI
  go_enter Try.func3, Try.ntmps3
  have B : Hid (Below w.heap.size w w) := Below.refl _ _
  go_wp2_with fail
  refine (HS'.out _).mono ?_
  rintro e w1 ⟨rfl, b⟩
  replace B : Hid (Below w.heap.size w w1) := B.out.trans (b.mono B.out.size)
  clear b 
  have b : Below w1.heap.size w1 (w1.alloc (.cells #[.int .i64 r0.1, .int .i64 r0.2.1, .int .i64 r0.2.2.1, .int .i64 r0.2.2.2] 23)) := (Below.refl _ _).alloc (Nat.le_refl _) _
  have KS : Hid (GuCells (w1.alloc (.cells #[.int .i64 r0.1, .int .i64 r0.2.1, .int .i64 r0.2.2.1, .int .i64 r0.2.2.2] 23)) w1.heap.size r0) := FnExactNewGuess_boxR _ _
  replace B : Hid (Below w.heap.size w (w1.alloc (.cells #[.int .i64 r0.1, .int .i64 r0.2.1, .int .i64 r0.2.2.1, .int .i64 r0.2.2.2] 23))) := B.out.trans (b.mono B.out.size)
  clear b
  obtain ⟨q00, q01, q02, q03⟩ := KS.out
  go_wp2_with fail
  refine (HI'.out _).mono ?_
  rintro e w2 ⟨rfl, b⟩
  replace KS := hid (KS.out.below b KS.out.lt)
  replace B : Hid (Below w.heap.size w w2) := B.out.trans (b.mono B.out.size)
  clear b q00 q01 q02 q03
  have b : Below w2.heap.size w2 (w2.alloc (.cells #[.int .i64 r0.1, .int .i64 r0.2.1, .int .i64 r0.2.2.1, .int .i64 r0.2.2.2] 23)) := (Below.refl _ _).alloc (Nat.le_refl _) _
  replace KS := hid (KS.out.below b KS.out.lt)
  have KI : Hid (GuCells (w2.alloc (.cells #[.int .i64 r0.1, .int .i64 r0.2.1, .int .i64 r0.2.2.1, .int .i64 r0.2.2.2] 23)) w2.heap.size r0) := FnExactNewGuess_boxR _ _
  replace B : Hid (Below w.heap.size w (w2.alloc (.cells #[.int .i64 r0.1, .int .i64 r0.2.1, .int .i64 r0.2.2.1, .int .i64 r0.2.2.2] 23))) := B.out.trans (b.mono B.out.size)
  clear b
  obtain ⟨q00, q01, q02, q03⟩ := KS.out
  obtain ⟨q10, q11, q12, q13⟩ := KI.out
  go_wp2_with fail
  refine (eqGuess_same r0.1 r0.2.1 r0.2.2.1 r0.2.2.2 _).mono ?_
  rintro e w3 ⟨rfl, b⟩
  replace KS := hid (KS.out.below b KS.out.lt)
  replace KI := hid (KI.out.below b KI.out.lt)
  replace B : Hid (Below w.heap.size w w3) := B.out.trans (b.mono B.out.size)
  clear b q00 q01 q02 q03 q10 q11 q12 q13
  go_wp2
  go_ret
  exact ⟨rfl, B.out⟩
end Go.Proofs.Yteeaebelknpdjbb
