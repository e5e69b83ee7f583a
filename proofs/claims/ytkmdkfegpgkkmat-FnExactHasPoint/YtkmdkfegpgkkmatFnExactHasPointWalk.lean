/-
  The law FnExactHasPoint answers true at every list of spans and every number.
-/
import Derived.Test.YtkmdkfegpgkkmatHasPoint
import Derived.Test.YtkmdkfegpgkkmatSpansTo
import Derived.Test.YtkmdkfegpgkkmatSArg
import Derived.Test.YtkmdkfegpgkkmatSzSpan
namespace Go.Proofs.Ytkmdkfegpgkkmat
open Go.RowKit

set_option maxHeartbeats 1000000 in
theorem FnExactHasPoint_walk (a : Option Addr) (len cap : Nat) (xs : List Sp) (n : Int) (w : World) (hrow : SArg w a len cap xs) (_ : (Lit.int .i64 n).wf = true) :
    Calls Try.prog 3 #[.slice a len cap, .int .i64 n] w fun e w' => e = .returned (.bool true) ∧ Below w.heap.size w w' := by
  by_cases hl : len ≤ 1048576
  rotate_left
  · have hm : len ≤ maxLen := Nat.le_trans hrow.2.1 hrow.2.2.1
    clear hrow
    go_enter Try.func3, Try.ntmps3
    go_wp2_with fail
    refine (szSpanS_no a len cap w hl hm).mono ?_
    rintro e w' ⟨rfl, hw⟩; obtain rfl := hw.symm
    go_wp2
    go_ret
    exact ⟨rfl, Below.refl _ _⟩
  have hr := hrow.reads hl
  have hxl : xs.length ≤ 1048576 := by rw [hrow.1]; exact hl
  clear hrow
  have HR := hid hr
  clear hr
  go_enter Try.func3, Try.ntmps3
  go_wp2_with fail
  refine (szSpanS_yes a len cap w hl).mono ?_
  rintro e w' ⟨rfl, hw⟩; obtain rfl := hw.symm
  have hd0 : decide ((1048576 - (len : Int)) < 0) = false := by simp; omega
  go_wp2_with fail
  refine (toSpanS_any _ xs w HR.out hxl).mono ?_
  rintro e w1 ⟨v1, rfl, o1, b1⟩
  have B1 := hid b1
  have O1 := hid o1
  clear o1 b1
  cases hb : hasL xs n <;> cases hg : goodL xs
  all_goals
    go_wp2_with fail
    first | refine (shasPoint_yes v1 xs n w1 O1.out.reads hg).mono ?_ | refine (shasPoint_no v1 xs n w1 O1.out.reads hg).mono ?_
    try rw [hb]
    rintro e w2 ⟨rfl, b2⟩
    have B2 : Hid (Below w.heap.size w w2) := B1.out.trans (b2.mono B1.out.size)
    clear b2 B1 O1
    go_wp2_with fail
    refine (toSpanS_any _ xs w2 (HR.out.below B2.out) hxl).mono ?_
    rintro e w3 ⟨v3, rfl, o3, b3⟩
    have B3 : Hid (Below w.heap.size w w3) := B2.out.trans (b3.mono B2.out.size)
    have O3 := hid o3
    clear o3 b3
    go_wp2_with fail
    first | refine (ihasPoint_yes v3 xs n w3 O3.out.reads hg).mono ?_ | refine (ihasPoint_no v3 xs n w3 O3.out.reads hg).mono ?_
    try rw [hb]
    rintro e w4 ⟨rfl, b4⟩
    have B4 : Hid (Below w.heap.size w w4) := B3.out.trans (b4.mono B3.out.size)
    have O4 := hid (O3.out.below b4)
    clear b4 O3
    go_wp2_with fail
    refine (toSpanS_any _ xs w4 (HR.out.below B4.out) hxl).mono ?_
    rintro e w5 ⟨v5, rfl, o5, b5⟩
    have B5 : Hid (Below w.heap.size w w5) := B4.out.trans (b5.mono B4.out.size)
    have O5 := hid (O4.out.below b5)
    have P5 := hid o5
    clear b5 o5
    go_wp2_with fail
    refine (eqSpanS_same v3 v5 xs w5 O5.out.reads P5.out.reads).mono ?_
    rintro e w6 ⟨rfl, b6⟩
    have B6 : Hid (Below w.heap.size w w6) := B5.out.trans (b6.mono B5.out.size)
    clear b6
    go_wp2
    go_ret
    exact ⟨rfl, B6.out⟩
end Go.Proofs.Ytkmdkfegpgkkmat
