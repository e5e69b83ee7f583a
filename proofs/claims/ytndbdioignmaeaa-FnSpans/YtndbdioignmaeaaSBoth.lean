/-
  spec.l2Both: whether both are good; spec.JoinSpans, spec.MeetSpans out of it. Nothing old is written.
-/
import Derived.Test.YtndbdioignmaeaaSGood
import Derived.Test.YtndbdioignmaeaaTell2
import Derived.Test.YtndbdioignmaeaaLenFacts
namespace Go.Proofs.Ytndbdioignmaeaa
open Go.RowKit
set_option maxRecDepth 100000

set_option maxHeartbeats 1000000 in
theorem both_any (va vb : Value) (xs ys : List Sp) (w : World) (ha : SReads w va xs) (hb : SReads w vb ys) :
    Calls Try.prog 52 #[va, vb] w fun e w' => e = .returned (.bool (goodL xs && goodL ys)) ∧ Below w.heap.size w w' := by
  have HA := hid ha
  have HB := hid hb
  clear ha hb
  cases hg : goodL xs with
  | false =>
    go_enter Try.func52, Try.ntmps52
    go_wp2_with fail
    refine (sgood_any va xs _ HA.out).mono ?_
    rintro e w1 ⟨rfl, b1⟩
    have B1 := hid b1
    clear b1
    rw [hg]
    go_wp2
    go_ret
    exact ⟨rfl, B1.out⟩
  | true =>
    obtain ⟨g, hgg⟩ : ∃ g, g = goodL ys := ⟨_, rfl⟩
    have HG := hid hgg
    clear hgg
    go_enter Try.func52, Try.ntmps52
    go_wp2_with fail
    refine (sgood_any va xs _ HA.out).mono ?_
    rintro e w1 ⟨rfl, b1⟩
    have B1 := hid b1
    clear b1
    rw [hg]
    go_wp2_with fail
    refine (sgood_any _ ys _ (HB.out.below B1.out)).mono ?_
    rintro e w2 ⟨rfl, b2⟩
    have B2 : Hid (Below w.heap.size w w2) := B1.out.trans (b2.mono B1.out.size)
    clear b2 B1
    rw [← HG.out]
    go_wp2
    go_ret
    exact ⟨by rw [← HG.out]; rfl, B2.out⟩
end Go.Proofs.Ytndbdioignmaeaa
