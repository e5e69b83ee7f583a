/-
  spec.CanMeet: whether nothing is late where the nearest end comes first. Nothing old is written.
-/
import Derived.Test.YtobkockikpgcoavSMeetJ
import Derived.Test.YtobkockikpgcoavSJob
namespace Go.Proofs.Ytobkockikpgcoav
open Go.RowKit

theorem scanMeet_yes (v : Value) (xs : List JbEl) (t : Bool) (ht : meetB xs = t) (w : World) (hr : JbReads w v xs) (hg : goodJ xs = true) :
    Calls Try.prog 20 #[v] w fun e w' => e = .returned (.tuple #[.bool t, .bool true]) ∧ Below w.heap.size w w' := by
  have HR := hid hr
  have HG := hid hg
  have HT := hid ht
  clear hr hg ht
  go_enter Try.func20, Try.ntmps20
  go_wp2_with fail
  refine (sgoodJobs_eq v xs true HG.out _ HR.out).mono ?_
  rintro e w1 ⟨rfl, b1⟩
  have B1 := hid b1
  clear b1
  go_wp2_with fail
  refine (l4Meet_eq v xs t HT.out _ (HR.out.below B1.out) HG.out).mono ?_
  rintro e w2 ⟨rfl, b2⟩
  have B2 : Hid (Below w.heap.size w w2) := B1.out.trans (b2.mono B1.out.size)
  clear b2
  go_wp2
  go_ret2
  exact ⟨rfl, B2.out⟩
theorem scanMeet_no (v : Value) (xs : List JbEl) (w : World) (hr : JbReads w v xs) (hg : goodJ xs = false) :
    Calls Try.prog 20 #[v] w fun e w' => e = .returned (.tuple #[.bool false, .bool false]) ∧ Below w.heap.size w w' := by
  have HR := hid hr
  clear hr
  go_enter Try.func20, Try.ntmps20
  go_wp2_with fail
  refine (sgoodJobs_eq v xs false hg _ HR.out).mono ?_
  rintro e w1 ⟨rfl, b1⟩
  have B1 := hid b1
  clear b1
  go_wp2
  go_ret2
  exact ⟨rfl, B1.out⟩
end Go.Proofs.Ytobkockikpgcoav
