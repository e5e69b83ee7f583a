/-
  impl.GoodChores: whether chores and hands are good. Nothing old is written.
-/
import Derived.Test.YtflhlinkolbbiamIAllIn
namespace Go.Proofs.Ytflhlinkolbbiam
open Go.RowKit

set_option maxHeartbeats 4000000 in
theorem igoodCh_eq (v : Value) (xs : List Int) (h : Int) (t : Bool) (ht : chB xs h = t) (w : World) (hr : KReads w v xs) :
    Calls Try.prog 29 #[v, .int .i64 h] w fun e w' => e = .returned (.bool t) ∧ Below w.heap.size w w' := by
  have HR := hid hr
  unfold chB at ht
  obtain ⟨a, cap, rfl, ⟨hlen, _⟩, _⟩ := hr
  obtain ⟨b1, hb1⟩ : ∃ b, decide (xs.length ≤ 8) = b := ⟨_, rfl⟩
  obtain ⟨b2, hb2⟩ : ∃ b, xs.all (inB 1 50) = b := ⟨_, rfl⟩
  rw [hb1, hb2] at ht
  have H2 := hid hb2
  clear hb2
  have d1 : decide ((xs.length : Int) ≤ 8) = b1 := by rw [← hb1]; congr 1; simp; omega
  clear hb1
  by_cases h1 : (1 : Int) ≤ h
  rotate_left
  · have hv : Hid (t = false) := by show _ = _; rw [← ht, decide_eq_false (by omega)]; cases b1 <;> cases b2 <;> rfl
    have e1 : decide ((1 : Int) ≤ h) = false := by simpa using h1
    clear ht
    go_enter Try.func29, Try.ntmps29
    go_wp2
    go_ret
    exact ⟨by rw [hv.out]; rfl, Below.refl _ _⟩
  have e1 : decide ((1 : Int) ≤ h) = true := by simpa using h1
  by_cases h2 : h ≤ 4
  rotate_left
  · have hv : Hid (t = false) := by show _ = _; rw [← ht, decide_eq_false (by omega)]; cases b1 <;> cases b2 <;> rfl
    have e2 : decide (h ≤ 4) = false := by simpa using h2
    clear ht
    go_enter Try.func29, Try.ntmps29
    go_wp2
    go_ret
    exact ⟨by rw [hv.out]; rfl, Below.refl _ _⟩
  have e2 : decide (h ≤ 4) = true := by simpa using h2
  rw [decide_eq_true (show 1 ≤ h ∧ h ≤ 4 from ⟨h1, h2⟩)] at ht
  cases b1
  · have hv : Hid (t = false) := by show _ = _; rw [← ht]; cases b2 <;> rfl
    clear ht
    go_enter Try.func29, Try.ntmps29
    go_wp2
    go_ret
    exact ⟨by rw [hv.out]; rfl, Below.refl _ _⟩
  have hv : Hid (t = b2) := by show _ = _; rw [← ht]; cases b2 <;> rfl
  clear ht
  go_enter Try.func29, Try.ntmps29
  go_wp2_with fail
  refine (iallIn_eq _ xs 1 50 b2 H2.out _ HR.out).mono ?_
  rintro e w1 ⟨rfl, hb⟩
  go_wp2
  go_ret
  exact ⟨by rw [hv.out]; rfl, hb⟩
end Go.Proofs.Ytflhlinkolbbiam
