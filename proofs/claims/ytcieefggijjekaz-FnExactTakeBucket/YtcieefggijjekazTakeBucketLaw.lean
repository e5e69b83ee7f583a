/-
  The law FnExactTakeBucket answers true at every argument, where both sides tell alike.
-/
import Derived.Test.YtcieefggijjekazKBucketTo
import Derived.Test.YtcieefggijjekazKBucketArg
import Derived.OwnWalk
namespace Go.Proofs.Ytcieefggijjekaz
open Go.RowKit

theorem FnExactTakeBucket_boxA (w : World) (x : BkEl) : BkCells (w.alloc (.cells #[.int .i64 x.1, .int .i64 x.2.1, .int .i64 x.2.2] 23)) w.heap.size 0 x := by
  refine ⟨?_, ?_, ?_⟩ <;> simp
theorem FnExactTakeBucket_boxR (w : World) (x : BkEl) : BkCells (w.alloc (.cells #[.int .i64 x.1, .int .i64 x.2.1, .int .i64 x.2.2] 24)) w.heap.size 0 x := by
  refine ⟨?_, ?_, ?_⟩ <;> simp
set_option maxHeartbeats 8000000 in
theorem FnExactTakeBucket_law (x0 : BkEl) (n1 : Int) (w : World) (r0 : BkEl) (r1 : Bool)
    (HS : ∀ (w : World), Calls Try.prog 8 #[(.agg #[.int .i64 x0.1, .int .i64 x0.2.1, .int .i64 x0.2.2]), .int .i64 n1] w fun e w' => e = .returned (.tuple #[(.agg #[.int .i64 r0.1, .int .i64 r0.2.1, .int .i64 r0.2.2]), .bool r1]) ∧ Below w.heap.size w w')
    (HI : ∀ (w : World), Calls Try.prog 10 #[(.agg #[.int .i64 x0.1, .int .i64 x0.2.1, .int .i64 x0.2.2]), .int .i64 n1] w fun e w' => e = .returned (.tuple #[(.agg #[.int .i64 r0.1, .int .i64 r0.2.1, .int .i64 r0.2.2]), .bool r1]) ∧ Below w.heap.size w w') :
    Calls Try.prog 3 #[(.agg #[.int .i64 x0.1, .int .i64 x0.2.1, .int .i64 x0.2.2]), .int .i64 n1] w fun e w' => e = .returned (.bool true) ∧ Below w.heap.size w w' := by
  have HS' := hid HS
  have HI' := hid HI
  clear HS HI
  go_enter Try.func3, Try.ntmps3
  have B : Hid (Below w.heap.size w w) := Below.refl _ _
  have b : Below w.heap.size w (w.alloc (.cells #[.int .i64 x0.1, .int .i64 x0.2.1, .int .i64 x0.2.2] 23)) := (Below.refl _ _).alloc (Nat.le_refl _) _
  have KA : Hid (BkCells (w.alloc (.cells #[.int .i64 x0.1, .int .i64 x0.2.1, .int .i64 x0.2.2] 23)) w.heap.size 0 x0) := FnExactTakeBucket_boxA _ _
  replace B : Hid (Below w.heap.size w (w.alloc (.cells #[.int .i64 x0.1, .int .i64 x0.2.1, .int .i64 x0.2.2] 23))) := B.out.trans (b.mono B.out.size)
  clear b
  obtain ⟨q00, q01, q02⟩ := KA.out
  go_wp2_with fail
  refine (toBucket_any x0.1 x0.2.1 x0.2.2 _).mono ?_
  rintro e w1 ⟨rfl, b⟩
  replace KA := hid (KA.out.below b KA.out.lt)
  replace B : Hid (Below w.heap.size w w1) := B.out.trans (b.mono B.out.size)
  clear b q00 q01 q02
  obtain ⟨q00, q01, q02⟩ := KA.out
  go_wp2_with fail
  refine (HS'.out _).mono ?_
  rintro e w2 ⟨rfl, b⟩
  replace KA := hid (KA.out.below b KA.out.lt)
  replace B : Hid (Below w.heap.size w w2) := B.out.trans (b.mono B.out.size)
  clear b q00 q01 q02
  have b : Below w2.heap.size w2 (w2.alloc (.cells #[.int .i64 r0.1, .int .i64 r0.2.1, .int .i64 r0.2.2] 24)) := (Below.refl _ _).alloc (Nat.le_refl _) _
  replace KA := hid (KA.out.below b KA.out.lt)
  have KS : Hid (BkCells (w2.alloc (.cells #[.int .i64 r0.1, .int .i64 r0.2.1, .int .i64 r0.2.2] 24)) w2.heap.size 0 r0) := FnExactTakeBucket_boxR _ _
  replace B : Hid (Below w.heap.size w (w2.alloc (.cells #[.int .i64 r0.1, .int .i64 r0.2.1, .int .i64 r0.2.2] 24))) := B.out.trans (b.mono B.out.size)
  clear b
  obtain ⟨q00, q01, q02⟩ := KA.out
  obtain ⟨q10, q11, q12⟩ := KS.out
  go_wp2_with fail
  refine (toBucket_any x0.1 x0.2.1 x0.2.2 _).mono ?_
  rintro e w3 ⟨rfl, b⟩
  replace KA := hid (KA.out.below b KA.out.lt)
  replace KS := hid (KS.out.below b KS.out.lt)
  replace B : Hid (Below w.heap.size w w3) := B.out.trans (b.mono B.out.size)
  clear b q00 q01 q02 q10 q11 q12
  obtain ⟨q00, q01, q02⟩ := KA.out
  obtain ⟨q10, q11, q12⟩ := KS.out
  go_wp2_with fail
  refine (HI'.out _).mono ?_
  rintro e w4 ⟨rfl, b⟩
  replace KA := hid (KA.out.below b KA.out.lt)
  replace KS := hid (KS.out.below b KS.out.lt)
  replace B : Hid (Below w.heap.size w w4) := B.out.trans (b.mono B.out.size)
  clear b q00 q01 q02 q10 q11 q12
  have b : Below w4.heap.size w4 (w4.alloc (.cells #[.int .i64 r0.1, .int .i64 r0.2.1, .int .i64 r0.2.2] 24)) := (Below.refl _ _).alloc (Nat.le_refl _) _
  replace KA := hid (KA.out.below b KA.out.lt)
  replace KS := hid (KS.out.below b KS.out.lt)
  have KI : Hid (BkCells (w4.alloc (.cells #[.int .i64 r0.1, .int .i64 r0.2.1, .int .i64 r0.2.2] 24)) w4.heap.size 0 r0) := FnExactTakeBucket_boxR _ _
  replace B : Hid (Below w.heap.size w (w4.alloc (.cells #[.int .i64 r0.1, .int .i64 r0.2.1, .int .i64 r0.2.2] 24))) := B.out.trans (b.mono B.out.size)
  clear b
  obtain ⟨q00, q01, q02⟩ := KA.out
  obtain ⟨q10, q11, q12⟩ := KS.out
  obtain ⟨q20, q21, q22⟩ := KI.out
  go_wp2_with fail
  refine (eqBucket_same r0.1 r0.2.1 r0.2.2 _).mono ?_
  rintro e w5 ⟨rfl, b⟩
  replace KA := hid (KA.out.below b KA.out.lt)
  replace KS := hid (KS.out.below b KS.out.lt)
  replace KI := hid (KI.out.below b KI.out.lt)
  replace B : Hid (Below w.heap.size w w5) := B.out.trans (b.mono B.out.size)
  clear b q00 q01 q02 q10 q11 q12 q20 q21 q22
  go_wp2
  go_ret
  exact ⟨rfl, B.out⟩
end Go.Proofs.Ytcieefggijjekaz
