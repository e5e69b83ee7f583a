/-
  spec.JoinSpans, spec.MeetSpans: what is told of two lists of spans. Nothing old is written.
-/
import Derived.Test.YtndbdioignmaeaaSBoth
import Derived.Test.YtndbdioignmaeaaSJoinC
import Derived.Test.YtndbdioignmaeaaSMeet
namespace Go.Proofs.Ytndbdioignmaeaa
open Go.RowKit
set_option maxRecDepth 100000

set_option maxHeartbeats 1000000 in
theorem sJoin_any (va vb : Value) (xs ys : List Sp) (w : World) (ha : SReads w va xs) (hb : SReads w vb ys) :
    Calls Try.prog 8 #[va, vb] w fun e w' => ∃ v', e = .returned (.tuple #[v', .bool (joinB xs ys)]) ∧ SOwn w.heap.size w' v' (joinY xs ys) ∧ Below w.heap.size w w' := by
  unfold joinY joinB
  have HA := hid ha
  have HB := hid hb
  clear ha hb
  cases hg : (goodL xs && goodL ys) with
  | false =>
    go_enter Try.func8, Try.ntmps8
    go_wp2_with fail
    refine (both_any va vb xs ys _ HA.out HB.out).mono ?_
    rintro e w1 ⟨rfl, b1⟩
    have B1 := hid b1
    clear b1
    rw [hg]
    go_wp2
    go_ret2
    exact ⟨_, rfl, sown_nil _ _ _, B1.out⟩
  | true =>
    have h' := hg
    rw [Bool.and_eq_true] at h'
    have CA := hid (good_chain h'.1)
    have CB := hid (good_chain h'.2)
    clear h'
    go_enter Try.func8, Try.ntmps8
    go_wp2_with fail
    refine (both_any va vb xs ys _ HA.out HB.out).mono ?_
    rintro e w1 ⟨rfl, b1⟩
    have B1 := hid b1
    clear b1
    rw [hg]
    go_wp2_with fail
    refine (sjoin_chain _ _ xs ys _ (HA.out.below B1.out) (HB.out.below B1.out) CA.out CB.out).mono ?_
    rintro e w2 ⟨v2, rfl, o2, b2⟩
    have B2 : Hid (Below w.heap.size w w2) := B1.out.trans (b2.mono B1.out.size)
    have O2 := hid (o2.mono B1.out.size)
    clear b2 o2 B1
    go_wp2_with fail
    refine (stell_own _ _ _ _ O2.out).mono ?_
    rintro e w' ⟨v3, rfl, o3, hw⟩; obtain rfl := hw.symm
    have O3 := hid o3
    clear o3
    go_wp2
    go_ret2
    exact ⟨_, rfl, O3.out, B2.out⟩

def meetY (xs ys : List Sp) : List Sp := if (goodL xs && goodL ys) = true then tellY (meetL xs ys) else []
def meetB (xs ys : List Sp) : Bool := (goodL xs && goodL ys) && tellB (meetL xs ys)
set_option maxHeartbeats 1000000 in
theorem sMeet_any (va vb : Value) (xs ys : List Sp) (w : World) (ha : SReads w va xs) (hb : SReads w vb ys) :
    Calls Try.prog 10 #[va, vb] w fun e w' => ∃ v', e = .returned (.tuple #[v', .bool (meetB xs ys)]) ∧ SOwn w.heap.size w' v' (meetY xs ys) ∧ Below w.heap.size w w' := by
  unfold meetY meetB
  have HA := hid ha
  have HB := hid hb
  clear ha hb
  cases hg : (goodL xs && goodL ys) with
  | false =>
    go_enter Try.func10, Try.ntmps10
    go_wp2_with fail
    refine (both_any va vb xs ys _ HA.out HB.out).mono ?_
    rintro e w1 ⟨rfl, b1⟩
    have B1 := hid b1
    clear b1
    rw [hg]
    go_wp2
    go_ret2
    exact ⟨_, rfl, sown_nil _ _ _, B1.out⟩
  | true =>
    have h' := hg
    rw [Bool.and_eq_true] at h'
    have la := good_len h'.1
    have lb := good_len h'.2
    clear h'
    go_enter Try.func10, Try.ntmps10
    go_wp2_with fail
    refine (both_any va vb xs ys _ HA.out HB.out).mono ?_
    rintro e w1 ⟨rfl, b1⟩
    have B1 := hid b1
    clear b1
    rw [hg]
    go_wp2_with fail
    refine (smeet_any _ _ xs ys _ (HA.out.below B1.out) (HB.out.below B1.out) (by omega) (by omega)).mono ?_
    rintro e w2 ⟨v2, rfl, o2, b2⟩
    have B2 : Hid (Below w.heap.size w w2) := B1.out.trans (b2.mono B1.out.size)
    have O2 := hid (o2.mono B1.out.size)
    clear b2 o2 B1
    go_wp2_with fail
    refine (stell_own _ _ _ _ O2.out).mono ?_
    rintro e w' ⟨v3, rfl, o3, hw⟩; obtain rfl := hw.symm
    have O3 := hid o3
    clear o3
    go_wp2
    go_ret2
    exact ⟨_, rfl, O3.out, B2.out⟩
end Go.Proofs.Ytndbdioignmaeaa
