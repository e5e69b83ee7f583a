/-
  spec.LateIn, impl.LateIn: the late jobs of a schedule, in memory of their own. Nothing old is written.
-/
import Derived.Test.YtobkockikpgcoavSJob
import Derived.Test.YtobkockikpgcoavIJob
import Derived.Test.YtobkockikpgcoavSSched
import Derived.Test.YtobkockikpgcoavISched
import Derived.Test.YtobkockikpgcoavIGoodS
import Derived.Test.YtobkockikpgcoavSLate
namespace Go.Proofs.Ytobkockikpgcoav
open Go.RowKit

theorem slatein_bad (v vs : Value) (xs : List JbEl) (ss : List Int) (w : World) (hr : JbReads w v xs) (hs : KReads w vs ss) (hg : goodJ xs = false) :
    Calls Try.prog 17 #[v, vs] w fun e w' => ∃ u0, e = .returned (.tuple #[u0, .bool false]) ∧ KOwn w.heap.size w'.heap.size w' u0 [] ∧ Below w.heap.size w w' := by
  have HR := hid hr
  have HS := hid hs
  obtain ⟨a, cap, rfl, _, _⟩ := hr
  obtain ⟨a2, cap2, rfl, _, _⟩ := hs
  go_enter Try.func17, Try.ntmps17
  go_wp2_with fail
  refine (sgoodJobs_eq _ xs false hg _ HR.out).mono ?_
  rintro e w1 ⟨rfl, b1⟩
  have B1 := hid b1
  clear b1
  go_wp2
  go_ret2
  exact ⟨_, rfl, kown_nil _ _ _ _ _, B1.out⟩
theorem slatein_no (v vs : Value) (xs : List JbEl) (ss : List Int) (w : World) (hr : JbReads w v xs) (hs : KReads w vs ss) (hg : goodJ xs = true) (hn : (goodS xs.length ss && schedB xs ss) = false) :
    Calls Try.prog 17 #[v, vs] w fun e w' => ∃ u0, e = .returned (.tuple #[u0, .bool false]) ∧ KOwn w.heap.size w'.heap.size w' u0 [] ∧ Below w.heap.size w w' := by
  have HR := hid hr
  have HS := hid hs
  obtain ⟨a, cap, rfl, _, _⟩ := hr
  obtain ⟨a2, cap2, rfl, _, _⟩ := hs
  go_enter Try.func17, Try.ntmps17
  go_wp2_with fail
  refine (sgoodJobs_eq _ xs true hg _ HR.out).mono ?_
  rintro e w1 ⟨rfl, b1⟩
  have B1 := hid b1
  clear b1
  go_wp2_with fail
  refine (l4Schedule_eq _ _ xs ss false hn _ (HR.out.below B1.out) (HS.out.below B1.out) (goodJ_len hg)).mono ?_
  rintro e w2 ⟨rfl, b2⟩
  have B2 : Hid (Below w.heap.size w w2) := B1.out.trans (b2.mono B1.out.size)
  clear b2
  go_wp2
  go_ret2
  exact ⟨_, rfl, kown_nil _ _ _ _ _, B2.out⟩
theorem slatein_yes (v vs : Value) (xs : List JbEl) (ss : List Int) (w : World) (hr : JbReads w v xs) (hs : KReads w vs ss) (hg : goodJ xs = true) (hn : (goodS xs.length ss && schedB xs ss) = true) :
    Calls Try.prog 17 #[v, vs] w fun e w' => ∃ u0, e = .returned (.tuple #[u0, .bool true]) ∧ KOwn w.heap.size w'.heap.size w' u0 (lateL xs ss) ∧ Below w.heap.size w w' := by
  have H24 : Hid (ss.length = 24) := by show _ = _; rw [Bool.and_eq_true] at hn; exact goodS_len hn.1
  have HR := hid hr
  have HS := hid hs
  obtain ⟨a, cap, rfl, _, _⟩ := hr
  obtain ⟨a2, cap2, rfl, _, _⟩ := hs
  go_enter Try.func17, Try.ntmps17
  go_wp2_with fail
  refine (sgoodJobs_eq _ xs true hg _ HR.out).mono ?_
  rintro e w1 ⟨rfl, b1⟩
  have B1 := hid b1
  clear b1
  go_wp2_with fail
  refine (l4Schedule_eq _ _ xs ss true hn _ (HR.out.below B1.out) (HS.out.below B1.out) (goodJ_len hg)).mono ?_
  rintro e w2 ⟨rfl, b2⟩
  have B2 : Hid (Below w.heap.size w w2) := B1.out.trans (b2.mono B1.out.size)
  clear b2
  go_wp2_with fail
  refine (slate_any _ _ xs ss _ (HR.out.below B2.out) (HS.out.below B2.out) hg H24.out).mono ?_
  rintro e w3 ⟨u, rfl, o3, b3⟩
  have O3 := hid (o3.mono B2.out.size (Nat.le_refl _))
  have B3 : Hid (Below w.heap.size w w3) := B2.out.trans (b3.mono B2.out.size)
  clear o3 b3
  go_wp2
  go_ret2
  exact ⟨_, rfl, O3.out, B3.out⟩
theorem ilatein_bad (v vs : Value) (xs : List JbEl) (ss : List Int) (w : World) (hr : JbReads w v xs) (hs : KReads w vs ss) (hg : goodJ xs = false) :
    Calls Try.prog 19 #[v, vs] w fun e w' => ∃ u0, e = .returned (.tuple #[u0, .bool false]) ∧ KOwn w.heap.size w'.heap.size w' u0 [] ∧ Below w.heap.size w w' := by
  have HR := hid hr
  have HS := hid hs
  obtain ⟨a, cap, rfl, _, _⟩ := hr
  obtain ⟨a2, cap2, rfl, _, _⟩ := hs
  go_enter Try.func19, Try.ntmps19
  go_wp2_with fail
  refine (igoodJobs_eq _ xs false hg _ HR.out).mono ?_
  rintro e w1 ⟨rfl, b1⟩
  have B1 := hid b1
  clear b1
  go_wp2
  go_ret2
  exact ⟨_, rfl, kown_nil _ _ _ _ _, B1.out⟩
theorem ilatein_no1 (v vs : Value) (xs : List JbEl) (ss : List Int) (w : World) (hr : JbReads w v xs) (hs : KReads w vs ss) (hg : goodJ xs = true) (hgs : goodS xs.length ss = false) :
    Calls Try.prog 19 #[v, vs] w fun e w' => ∃ u0, e = .returned (.tuple #[u0, .bool false]) ∧ KOwn w.heap.size w'.heap.size w' u0 [] ∧ Below w.heap.size w w' := by
  have HR := hid hr
  have HS := hid hs
  obtain ⟨a, cap, rfl, _, _⟩ := hr
  obtain ⟨a2, cap2, rfl, _, _⟩ := hs
  go_enter Try.func19, Try.ntmps19
  go_wp2_with fail
  refine (igoodJobs_eq _ xs true hg _ HR.out).mono ?_
  rintro e w1 ⟨rfl, b1⟩
  have B1 := hid b1
  clear b1
  go_wp2_with fail
  refine (goodSlots_eq _ ss xs.length false hgs _ (HS.out.below B1.out)).mono ?_
  rintro e w' ⟨rfl, hw⟩; obtain rfl := hw.symm
  go_wp2
  go_ret2
  exact ⟨_, rfl, kown_nil _ _ _ _ _, B1.out⟩
theorem ilatein_no2 (v vs : Value) (xs : List JbEl) (ss : List Int) (w : World) (hr : JbReads w v xs) (hs : KReads w vs ss) (hg : goodJ xs = true) (hgs : goodS xs.length ss = true) (hn : schedB xs ss = false) :
    Calls Try.prog 19 #[v, vs] w fun e w' => ∃ u0, e = .returned (.tuple #[u0, .bool false]) ∧ KOwn w.heap.size w'.heap.size w' u0 [] ∧ Below w.heap.size w w' := by
  have HR := hid hr
  have HS := hid hs
  obtain ⟨a, cap, rfl, _, _⟩ := hr
  obtain ⟨a2, cap2, rfl, _, _⟩ := hs
  go_enter Try.func19, Try.ntmps19
  go_wp2_with fail
  refine (igoodJobs_eq _ xs true hg _ HR.out).mono ?_
  rintro e w1 ⟨rfl, b1⟩
  have B1 := hid b1
  clear b1
  go_wp2_with fail
  refine (goodSlots_eq _ ss xs.length true hgs _ (HS.out.below B1.out)).mono ?_
  rintro e w' ⟨rfl, hw⟩; obtain rfl := hw.symm
  go_wp2_with fail
  refine (isched_eq _ _ xs ss false hn _ (HR.out.below B1.out) (HS.out.below B1.out) hg hgs).mono ?_
  rintro e w2 ⟨rfl, b2⟩
  have B2 : Hid (Below w.heap.size w w2) := B1.out.trans (b2.mono B1.out.size)
  clear b2
  go_wp2
  go_ret2
  exact ⟨_, rfl, kown_nil _ _ _ _ _, B2.out⟩
theorem ilatein_yes (v vs : Value) (xs : List JbEl) (ss : List Int) (w : World) (hr : JbReads w v xs) (hs : KReads w vs ss) (hg : goodJ xs = true) (hgs : goodS xs.length ss = true) (hn : schedB xs ss = true) :
    Calls Try.prog 19 #[v, vs] w fun e w' => ∃ u0, e = .returned (.tuple #[u0, .bool true]) ∧ KOwn w.heap.size w'.heap.size w' u0 (lateL xs ss) ∧ Below w.heap.size w w' := by
  have H24 : Hid (ss.length = 24) := goodS_len hgs
  have HR := hid hr
  have HS := hid hs
  obtain ⟨a, cap, rfl, _, _⟩ := hr
  obtain ⟨a2, cap2, rfl, _, _⟩ := hs
  go_enter Try.func19, Try.ntmps19
  go_wp2_with fail
  refine (igoodJobs_eq _ xs true hg _ HR.out).mono ?_
  rintro e w1 ⟨rfl, b1⟩
  have B1 := hid b1
  clear b1
  go_wp2_with fail
  refine (goodSlots_eq _ ss xs.length true hgs _ (HS.out.below B1.out)).mono ?_
  rintro e w' ⟨rfl, hw⟩; obtain rfl := hw.symm
  go_wp2_with fail
  refine (isched_eq _ _ xs ss true hn _ (HR.out.below B1.out) (HS.out.below B1.out) hg hgs).mono ?_
  rintro e w2 ⟨rfl, b2⟩
  have B2 : Hid (Below w.heap.size w w2) := B1.out.trans (b2.mono B1.out.size)
  clear b2
  go_wp2_with fail
  refine (ilate_any _ _ xs ss _ (HR.out.below B2.out) (HS.out.below B2.out) hg H24.out).mono ?_
  rintro e w3 ⟨u, rfl, o3, b3⟩
  have O3 := hid (o3.mono B2.out.size (Nat.le_refl _))
  have B3 : Hid (Below w.heap.size w w3) := B2.out.trans (b3.mono B2.out.size)
  clear o3 b3
  go_wp2
  go_ret2
  exact ⟨_, rfl, O3.out, B3.out⟩
theorem ilatein_no (v vs : Value) (xs : List JbEl) (ss : List Int) (w : World) (hr : JbReads w v xs) (hs : KReads w vs ss) (hg : goodJ xs = true) (hn : (goodS xs.length ss && schedB xs ss) = false) :
    Calls Try.prog 19 #[v, vs] w fun e w' => ∃ u0, e = .returned (.tuple #[u0, .bool false]) ∧ KOwn w.heap.size w'.heap.size w' u0 [] ∧ Below w.heap.size w w' := by
  cases hgs : goodS xs.length ss with
  | false => exact ilatein_no1 v vs xs ss w hr hs hg hgs
  | true =>
    rw [hgs, Bool.true_and] at hn
    exact ilatein_no2 v vs xs ss w hr hs hg hgs hn
end Go.Proofs.Ytobkockikpgcoav
