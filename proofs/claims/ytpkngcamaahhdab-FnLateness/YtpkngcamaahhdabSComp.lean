/-
  spec.CompletionsOf: when each task is done, in memory of its own. Nothing old is written.
-/
import Derived.Test.YtpkngcamaahhdabSDone
import Derived.Test.YtpkngcamaahhdabSOrd
namespace Go.Proofs.Ytpkngcamaahhdab
open Go.RowKit

set_option maxHeartbeats 1000000 in
theorem scomp_no (v vo : Value) (xs : List TkEl) (ys : List Int) (w : World) (hr : TkReads w v xs) (hs : KReads w vo ys) (hn : (goodT xs && ordB xs.length ys) = false) :
    Calls Try.prog 33 #[v, vo] w fun e w' => ∃ u0, e = .returned (.tuple #[u0, .bool false]) ∧ KOwn w.heap.size w'.heap.size w' u0 [] ∧ Below w.heap.size w w' := by
  have HR := hid hr
  have HS := hid hs
  clear hr hs
  go_enter Try.func33, Try.ntmps33
  go_wp2_with fail
  refine (l5Both_eq _ _ xs ys false hn _ HR.out HS.out).mono ?_
  rintro e w1 ⟨rfl, b1⟩
  have B1 := hid b1
  clear b1
  go_wp2
  go_ret2
  exact ⟨_, rfl, kown_nil _ _ _ _ _, B1.out⟩
set_option maxHeartbeats 1000000 in
theorem scomp_yes (v vo : Value) (xs : List TkEl) (os : List Nat) (w : World) (hr : TkReads w v xs) (hs : KReads w vo (ofN os)) (hg : goodT xs = true) (ho : os.Perm (List.range xs.length)) :
    Calls Try.prog 33 #[v, vo] w fun e w' => ∃ u0, e = .returned (.tuple #[u0, .bool true]) ∧ KOwn w.heap.size w'.heap.size w' u0 (doneL xs os) ∧ Below w.heap.size w w' := by
  have HR := hid hr
  have HS := hid hs
  have HG := hid hg
  have HP := hid ho
  have hn : (goodT xs && ordB xs.length (ofN os)) = true := by rw [hg, Bool.true_and]; exact ordB_map ho
  clear hr hs hg ho
  go_enter Try.func33, Try.ntmps33
  go_wp2_with fail
  refine (l5Both_eq _ _ xs (ofN os) true hn _ HR.out HS.out).mono ?_
  rintro e w1 ⟨rfl, b1⟩
  have B1 := hid b1
  clear b1
  go_wp2_with fail
  refine (sdone_any _ _ xs os _ (HR.out.below B1.out) (HS.out.below B1.out) HG.out HP.out).mono ?_
  rintro e w2 ⟨u, rfl, hown, b2⟩
  have O2 := hid (hown.mono B1.out.size (Nat.le_refl _))
  have B2 : Hid (Below w.heap.size w w2) := B1.out.trans (b2.mono B1.out.size)
  clear hown b2
  go_wp2
  go_ret2
  exact ⟨_, rfl, O2.out, B2.out⟩
end Go.Proofs.Ytpkngcamaahhdab
