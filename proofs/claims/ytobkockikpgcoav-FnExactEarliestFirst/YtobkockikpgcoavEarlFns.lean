/-
  spec.EarliestFirst, impl.EarliestFirst: the nearest end first, of good jobs, in memory of its own. Nothing old is written.
-/
import Derived.Test.YtobkockikpgcoavSJob
import Derived.Test.YtobkockikpgcoavIJob
import Derived.Test.YtobkockikpgcoavSEarl
import Derived.Test.YtobkockikpgcoavIEarl
namespace Go.Proofs.Ytobkockikpgcoav
open Go.RowKit

theorem searliest_no (v : Value) (xs : List JbEl) (w : World) (hr : JbReads w v xs) (hg : goodJ xs = false) :
    Calls Try.prog 9 #[v] w fun e w' => ∃ u0, e = .returned (.tuple #[u0, .bool false]) ∧ KOwn w.heap.size w'.heap.size w' u0 [] ∧ Below w.heap.size w w' := by
  have HR := hid hr
  clear hr
  go_enter Try.func9, Try.ntmps9
  go_wp2_with fail
  refine (sgoodJobs_eq v xs false hg _ HR.out).mono ?_
  rintro e w1 ⟨rfl, b1⟩
  have B1 := hid b1
  clear b1
  go_wp2
  go_ret2
  exact ⟨_, rfl, kown_nil _ _ _ _ _, B1.out⟩
theorem searliest_yes (v : Value) (xs : List JbEl) (w : World) (hr : JbReads w v xs) (hg : goodJ xs = true) :
    Calls Try.prog 9 #[v] w fun e w' => ∃ u0, e = .returned (.tuple #[u0, .bool true]) ∧ KOwn w.heap.size w'.heap.size w' u0 (earl xs 24) ∧ Below w.heap.size w w' := by
  have HR := hid hr
  clear hr
  go_enter Try.func9, Try.ntmps9
  go_wp2_with fail
  refine (sgoodJobs_eq v xs true hg _ HR.out).mono ?_
  rintro e w1 ⟨rfl, b1⟩
  have B1 := hid b1
  clear b1
  go_wp2_with fail
  refine (searl_any v xs _ (HR.out.below B1.out) hg).mono ?_
  rintro e w2 ⟨u, rfl, o2, b2⟩
  have O2 := hid (o2.mono B1.out.size (Nat.le_refl _))
  have B2 : Hid (Below w.heap.size w w2) := B1.out.trans (b2.mono B1.out.size)
  clear o2 b2
  go_wp2
  go_ret2
  exact ⟨_, rfl, O2.out, B2.out⟩

theorem iearliest_no (v : Value) (xs : List JbEl) (w : World) (hr : JbReads w v xs) (hg : goodJ xs = false) :
    Calls Try.prog 11 #[v] w fun e w' => ∃ u0, e = .returned (.tuple #[u0, .bool false]) ∧ KOwn w.heap.size w'.heap.size w' u0 [] ∧ Below w.heap.size w w' := by
  have HR := hid hr
  clear hr
  go_enter Try.func11, Try.ntmps11
  go_wp2_with fail
  refine (igoodJobs_eq v xs false hg _ HR.out).mono ?_
  rintro e w1 ⟨rfl, b1⟩
  have B1 := hid b1
  clear b1
  go_wp2
  go_ret2
  exact ⟨_, rfl, kown_nil _ _ _ _ _, B1.out⟩
theorem iearliest_yes (v : Value) (xs : List JbEl) (w : World) (hr : JbReads w v xs) (hg : goodJ xs = true) :
    Calls Try.prog 11 #[v] w fun e w' => ∃ u0, e = .returned (.tuple #[u0, .bool true]) ∧ KOwn w.heap.size w'.heap.size w' u0 (earl xs 24) ∧ Below w.heap.size w w' := by
  have HR := hid hr
  clear hr
  go_enter Try.func11, Try.ntmps11
  go_wp2_with fail
  refine (igoodJobs_eq v xs true hg _ HR.out).mono ?_
  rintro e w1 ⟨rfl, b1⟩
  have B1 := hid b1
  clear b1
  go_wp2_with fail
  refine (iearl_any v xs _ (HR.out.below B1.out) hg).mono ?_
  rintro e w2 ⟨u, rfl, o2, b2⟩
  have O2 := hid (o2.mono B1.out.size (Nat.le_refl _))
  have B2 : Hid (Below w.heap.size w w2) := B1.out.trans (b2.mono B1.out.size)
  clear o2 b2
  go_wp2
  go_ret2
  exact ⟨_, rfl, O2.out, B2.out⟩

end Go.Proofs.Ytobkockikpgcoav
