/-
  spec.LengthOf, impl.LengthOf: how many numbers are in good spans, and whether they are good; nothing old is written.
-/
import Derived.Test.YtobkockikpgcoaaDoorSGood
import Derived.Test.YtobkockikpgcoaaDoorIGood
import Derived.Test.YtobkockikpgcoaaDoorSpanLen
import Derived.Test.YtobkockikpgcoaaDoorLenFacts
import Derived.Test.YtobkockikpgcoaaDoorILen
namespace Go.Proofs.YtobkockikpgcoaaDoor
open Go.RowKit

theorem slengthOf_yes (v : Value) (xs : List Sp) (w : World) (hr : SReads w v xs) (hg : goodL xs = true) :
    Calls Tryd.prog 39 #[v] w fun e w' => e = .returned (.tuple #[.int .i64 (lenL xs), .bool true]) ∧ Below w.heap.size w w' := by
  have HR := hid hr
  clear hr
  go_enter Tryd.func39, Tryd.ntmps39
  go_wp2_with fail
  refine (sgood_any v xs w HR.out).mono ?_
  rintro e w1 ⟨rfl, b1⟩
  have B1 := hid b1
  clear b1
  rw [hg]
  go_wp2_with fail
  refine (slen_any v xs w1 (HR.out.below B1.out) (good_chain hg)).mono ?_
  rintro e w2 ⟨rfl, b2⟩
  have B2 : Hid (Below w.heap.size w w2) := B1.out.trans (b2.mono B1.out.size)
  clear b2
  go_wp2
  go_ret2
  exact ⟨rfl, B2.out⟩
theorem slengthOf_no (v : Value) (xs : List Sp) (w : World) (hr : SReads w v xs) (hg : goodL xs = false) :
    Calls Tryd.prog 39 #[v] w fun e w' => e = .returned (.tuple #[.int .i64 0, .bool false]) ∧ Below w.heap.size w w' := by
  have HR := hid hr
  clear hr
  go_enter Tryd.func39, Tryd.ntmps39
  go_wp2_with fail
  refine (sgood_any v xs w HR.out).mono ?_
  rintro e w1 ⟨rfl, b1⟩
  have B1 := hid b1
  clear b1
  rw [hg]
  go_wp2
  go_ret2
  exact ⟨rfl, B1.out⟩
end Go.Proofs.YtobkockikpgcoaaDoor
