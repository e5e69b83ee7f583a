/-
  spec.GoodChores: whether chores and hands are good. Nothing is written.
-/
import Derived.Test.YtflhlinkolbbiamHandFns
import Derived.Test.YtflhlinkolbbiamSAll7
namespace Go.Proofs.Ytflhlinkolbbiam
open Go.RowKit

set_option maxHeartbeats 4000000 in
theorem sgoodCh_eq (v : Value) (xs : List Int) (h : Int) (t : Bool) (ht : chB xs h = t) (w : World) (hr : KReads w v xs) :
    Calls Try.prog 26 #[v, .int .i64 h] w fun e w' => e = .returned (.bool t) ∧ w' = w := by
  have HR := hid hr
  unfold chB at ht
  obtain ⟨a, cap, rfl, ⟨hlen, _⟩, _⟩ := hr
  obtain ⟨b1, hb1⟩ : ∃ b, decide (xs.length ≤ 8) = b := ⟨_, rfl⟩
  obtain ⟨b2, hb2⟩ : ∃ b, xs.all (inB 1 50) = b := ⟨_, rfl⟩
  obtain ⟨b3, hb3⟩ : ∃ b, decide (1 ≤ h ∧ h ≤ 4) = b := ⟨_, rfl⟩
  rw [hb1, hb2, hb3] at ht
  have H2 := hid hb2
  have H3 := hid hb3
  clear hb2 hb3
  have d1 : decide ((xs.length : Int) ≤ 8) = b1 := by rw [← hb1]; congr 1; simp; omega
  clear hb1
  cases b1
  · have hv : Hid (t = false) := by show _ = _; rw [← ht]; cases b2 <;> cases b3 <;> rfl
    clear ht
    go_enter Try.func26, Try.ntmps26
    go_wp2
    go_ret
    exact ⟨by rw [hv.out]; rfl, rfl⟩
  go_enter Try.func26, Try.ntmps26
  go_wp2_with fail
  refine (l1All7_eq _ xs 1 50 b2 H2.out _ HR.out).mono ?_
  rintro e w' ⟨rfl, hw⟩; obtain rfl := hw.symm
  cases b2
  · have hv : Hid (t = false) := by show _ = _; rw [← ht]; cases b3 <;> rfl
    clear ht
    go_wp2
    go_ret
    exact ⟨by rw [hv.out]; rfl, rfl⟩
  go_wp2_with fail
  refine (l1In_eq h 1 4 b3 H3.out _).mono ?_
  rintro e w' ⟨rfl, hw⟩; obtain rfl := hw.symm
  have hv : Hid (t = b3) := by show _ = _; rw [← ht]; cases b3 <;> rfl
  clear ht
  go_wp2
  go_ret
  exact ⟨by rw [hv.out]; rfl, rfl⟩
end Go.Proofs.Ytflhlinkolbbiam
