/-
  impl.ByEnd: the order by ends, in memory of its own. Nothing old is written.
-/
import Derived.Test.YtpkngcamaahhdabITask
import Derived.Test.YtpkngcamaahhdabIByEnd
namespace Go.Proofs.Ytpkngcamaahhdab
open Go.RowKit

set_option maxHeartbeats 1000000 in
theorem ibyendfn_no (v : Value) (xs : List TkEl) (w : World) (hr : TkReads w v xs) (hg : goodT xs = false) :
    Calls Try.prog 29 #[v] w fun e w' => ∃ u0, e = .returned (.tuple #[u0, .bool false]) ∧ KOwn w.heap.size w'.heap.size w' u0 [] ∧ Below w.heap.size w w' := by
  have HR := hid hr
  clear hr
  go_enter Try.func29, Try.ntmps29
  go_wp2_with fail
  refine (igoodTasks_eq _ xs false hg _ HR.out).mono ?_
  rintro e w1 ⟨rfl, b1⟩
  have B1 := hid b1
  clear b1
  go_wp2
  go_ret2
  exact ⟨_, rfl, kown_nil _ _ _ _ _, B1.out⟩
set_option maxHeartbeats 1000000 in
theorem ibyendfn_yes (v : Value) (xs : List TkEl) (w : World) (hr : TkReads w v xs) (hg : goodT xs = true) :
    Calls Try.prog 29 #[v] w fun e w' => ∃ u0, e = .returned (.tuple #[u0, .bool true]) ∧ KOwn w.heap.size w'.heap.size w' u0 (ofN (byEndL xs)) ∧ Below w.heap.size w w' := by
  have HR := hid hr
  have HG := hid hg
  clear hr
  go_enter Try.func29, Try.ntmps29
  go_wp2_with fail
  refine (igoodTasks_eq _ xs true hg _ HR.out).mono ?_
  rintro e w1 ⟨rfl, b1⟩
  have B1 := hid b1
  clear b1
  go_wp2_with fail
  refine (ibyend_any _ xs _ (HR.out.below B1.out) HG.out).mono ?_
  rintro e w2 ⟨g, rfl, hrow, hge, b2⟩
  have hlen := goodT_len HG.out
  have O2 : Hid (KOwn w.heap.size w2.heap.size w2 (.slice (some ⟨g, 0, none⟩) xs.length xs.length) (ofN (byEndL xs))) := hrow.own (by omega) (by have := B1.out.size; omega) hrow.caps.2.2
  have B2 : Hid (Below w.heap.size w w2) := B1.out.trans (b2.mono B1.out.size)
  clear hrow b2 hge hlen
  go_wp2
  go_ret2
  exact ⟨_, rfl, O2.out, B2.out⟩
end Go.Proofs.Ytpkngcamaahhdab
