/-
  The law FnExactGoodBucket answers true at every argument, where both sides tell alike.
-/
import Derived.Test.YtcieefggijjekayKBucketTo
import Derived.Test.YtcieefggijjekayKBucketArg
import Derived.OwnWalk
namespace Go.Proofs.Ytcieefggijjekay
open Go.RowKit

theorem FnExactGoodBucket_boxA (w : World) (x : BkEl) : BkCells (w.alloc (.cells #[.int .i64 x.1, .int .i64 x.2.1, .int .i64 x.2.2] 41)) w.heap.size 0 x := by
  refine ⟨?_, ?_, ?_⟩ <;> simp
set_option maxHeartbeats 8000000 in
theorem FnExactGoodBucket_law (x0 : BkEl) (w : World) (r0 : Bool)
    (HS : ∀ (w : World), Calls Try.prog 21 #[(.agg #[.int .i64 x0.1, .int .i64 x0.2.1, .int .i64 x0.2.2])] w fun e w' => e = .returned (.bool r0) ∧ Below w.heap.size w w')
    (HI : ∀ (w : World), Calls Try.prog 23 #[(.agg #[.int .i64 x0.1, .int .i64 x0.2.1, .int .i64 x0.2.2])] w fun e w' => e = .returned (.bool r0) ∧ Below w.heap.size w w') :
    Calls Try.prog 7 #[(.agg #[.int .i64 x0.1, .int .i64 x0.2.1, .int .i64 x0.2.2])] w fun e w' => e = .returned (.bool true) ∧ Below w.heap.size w w' := by
  have HS' := hid HS
  have HI' := hid HI
  clear HS HI
  go_enter Try.func7, Try.ntmps7
  have B : Hid (Below w.heap.size w w) := Below.refl _ _
  have b : Below w.heap.size w (w.alloc (.cells #[.int .i64 x0.1, .int .i64 x0.2.1, .int .i64 x0.2.2] 41)) := (Below.refl _ _).alloc (Nat.le_refl _) _
  have KA : Hid (BkCells (w.alloc (.cells #[.int .i64 x0.1, .int .i64 x0.2.1, .int .i64 x0.2.2] 41)) w.heap.size 0 x0) := FnExactGoodBucket_boxA _ _
  replace B : Hid (Below w.heap.size w (w.alloc (.cells #[.int .i64 x0.1, .int .i64 x0.2.1, .int .i64 x0.2.2] 41))) := B.out.trans (b.mono B.out.size)
  clear b
  obtain ⟨q00, q01, q02⟩ := KA.out
  go_wp2_with fail
  refine (toBucket_any x0.1 x0.2.1 x0.2.2 _).mono ?_
  rintro e w1 ⟨rfl, b⟩
  replace KA := hid (KA.out.below b KA.out.lt)
  replace B : Hid (Below w.heap.size w w1) := B.out.trans (b.mono B.out.size)
  clear b q00 q01 q02
  obtain ⟨q00, q01, q02⟩ := KA.out
  go_wp2_with fail
  refine (HS'.out _).mono ?_
  rintro e w2 ⟨rfl, b⟩
  replace KA := hid (KA.out.below b KA.out.lt)
  replace B : Hid (Below w.heap.size w w2) := B.out.trans (b.mono B.out.size)
  clear b q00 q01 q02
  obtain ⟨q00, q01, q02⟩ := KA.out
  go_wp2_with fail
  refine (toBucket_any x0.1 x0.2.1 x0.2.2 _).mono ?_
  rintro e w3 ⟨rfl, b⟩
  replace KA := hid (KA.out.below b KA.out.lt)
  replace B : Hid (Below w.heap.size w w3) := B.out.trans (b.mono B.out.size)
  clear b q00 q01 q02
  obtain ⟨q00, q01, q02⟩ := KA.out
  go_wp2_with fail
  refine (HI'.out _).mono ?_
  rintro e w4 ⟨rfl, b⟩
  replace KA := hid (KA.out.below b KA.out.lt)
  replace B : Hid (Below w.heap.size w w4) := B.out.trans (b.mono B.out.size)
  clear b q00 q01 q02
  go_wp2
  go_ret
  exact ⟨rfl, B.out⟩
end Go.Proofs.Ytcieefggijjekay
