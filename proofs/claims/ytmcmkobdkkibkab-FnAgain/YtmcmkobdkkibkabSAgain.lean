/-
  spec.GoodAgain: whether tasks are as the document says. Nothing old is written.
-/
import Derived.Test.YtmcmkobdkkibkabSIn
import Derived.Test.YtmcmkobdkkibkabAgnLoad
namespace Go.Proofs.Ytmcmkobdkkibkab
open Go.RowKit

theorem gall_take (l : List AgEl) (k : Nat) (hk : k < l.length) : (l.take (k + 1)).all againB = ((l.take k).all againB && againB (l.getD k (0, 0))) := by
  rw [List.take_succ_eq_append_getElem hk, List.all_append]
  simp [List.getD_eq_getElem?_getD, hk]
theorem gall_false {l : List AgEl} (k : Nat) (hk : k < l.length) (h : againB (l.getD k (0, 0)) = false) : l.all againB = false := by
  rw [← Bool.not_eq_true, List.all_eq_true]
  intro hh
  have := hh (l.getD k (0, 0)) (by simp [List.getD_eq_getElem?_getD, hk])
  rw [h] at this
  cases this
set_option maxHeartbeats 2000000 in
theorem sgoodAgain_eq (v : Value) (xs : List AgEl) (t : Bool) (h : goodA xs = t) (w : World) (hr : AgReads w v xs) :
    Calls Try.prog 42 #[v] w fun e w' => e = .returned (.bool t) ∧ Below w.heap.size w w' := by
  have HT : Hid ((xs.all againB && decide (xs.length ≤ 5)) = t) := h
  clear h
  have HR := hid hr
  obtain ⟨a, cap, rfl, _, _⟩ := hr
  go_enter Try.func42, Try.ntmps42
  go_wp2
  go_loopw [7] (fun i wr => ∃ k : Nat, k ≤ xs.length ∧ i = .int .i64 k ∧ (xs.take k).all againB = true ∧ Below w.heap.size w wr) (fun i _ => xs.length - (intOf i).toNat)
  case atStart => exact ⟨0, Nat.zero_le _, rfl, rfl, Below.refl _ _⟩
  case round =>
    obtain ⟨k, hk, rfl, hall, hbel⟩ := hrel
    have HA := hid hall
    have HB := hid hbel
    clear hall hbel
    by_cases hlt : k < xs.length
    · obtain ⟨g, o, cap', e, hc⟩ := (HR.out.below HB.out).cells k hlt
      cases e
      obtain ⟨p, hp⟩ : ∃ p, p = (xs.getD k (0, 0)).1 := ⟨_, rfl⟩
      obtain ⟨q, hq⟩ : ∃ q, q = (xs.getD k (0, 0)).2 := ⟨_, rfl⟩
      obtain ⟨c0, c1⟩ := hc k hlt
      rw [← hp] at c0
      rw [← hq] at c1
      have HK : Hid (againB (xs.getD k (0, 0)) = (decide (1 ≤ p ∧ p ≤ 10) && decide (p ≤ q ∧ q ≤ 40))) := by show _ = _; rw [hp, hq]; rfl
      clear hc hp hq
      by_cases h1 : 1 ≤ p ∧ p ≤ 10
      · have H1 : Hid (decide (1 ≤ p ∧ p ≤ 10) = true) := by show _ = _; simpa using h1
        clear h1
        by_cases h2 : p ≤ q ∧ q ≤ 40
        · have H2 : Hid (decide (p ≤ q ∧ q ≤ 40) = true) := by show _ = _; simpa using h2
          have HS : Hid ((xs.take (k + 1)).all againB = true) := by show _ = _; rw [gall_take xs k hlt, HA.out, HK.out, H1.out, H2.out]; rfl
          clear h2
          go_wp2_with fail
          refine (l1In_eq p 1 10 true H1.out _).mono ?_
          rintro e w' ⟨rfl, hw⟩; obtain rfl := hw.symm
          go_wp2_with fail
          refine (l1In_eq q p 40 true H2.out _).mono ?_
          rintro e w' ⟨rfl, hw⟩; obtain rfl := hw.symm
          go_wp2
          go_roundw
          case rel => exact ⟨k + 1, by omega, by go_num, HS.out, HB.out.alloc HB.out.size _⟩
          case measure => simp [intOf]; omega
        · have H2 : Hid (decide (p ≤ q ∧ q ≤ 40) = false) := by show _ = _; rw [decide_eq_false_iff_not]; exact h2
          have hv : Hid (t = false) := by have := HT.out; rw [gall_false k hlt (by rw [HK.out, H1.out, H2.out]; rfl)] at this; exact this.symm
          clear h2
          go_wp2_with fail
          refine (l1In_eq p 1 10 true H1.out _).mono ?_
          rintro e w' ⟨rfl, hw⟩; obtain rfl := hw.symm
          go_wp2_with fail
          refine (l1In_eq q p 40 false H2.out _).mono ?_
          rintro e w' ⟨rfl, hw⟩; obtain rfl := hw.symm
          go_wp2
          go_ret
          exact ⟨by rw [hv.out]; rfl, HB.out.alloc HB.out.size _⟩
      · have H1 : Hid (decide (1 ≤ p ∧ p ≤ 10) = false) := by show _ = _; rw [decide_eq_false_iff_not]; exact h1
        have hv : Hid (t = false) := by have := HT.out; rw [gall_false k hlt (by rw [HK.out, H1.out]; rfl)] at this; exact this.symm
        clear h1
        go_wp2_with fail
        refine (l1In_eq p 1 10 false H1.out _).mono ?_
        rintro e w' ⟨rfl, hw⟩; obtain rfl := hw.symm
        go_wp2
        go_ret
        exact ⟨by rw [hv.out]; rfl, HB.out.alloc HB.out.size _⟩
    · have ha : xs.all againB = true := by have := HA.out; rw [List.take_of_length_le (by omega)] at this; exact this
      have hv : Hid (t = decide (xs.length ≤ 5)) := by have := HT.out; rw [ha, Bool.true_and] at this; exact this.symm
      clear ha
      by_cases h8 : xs.length ≤ 5
      · have hv' : Hid (t = true) := by show _ = _; rw [hv.out]; simpa using h8
        go_wp2
        go_ret
        exact ⟨by rw [hv'.out]; simp; omega, HB.out⟩
      · have hv' : Hid (t = false) := by show _ = _; rw [hv.out]; simpa using h8
        go_wp2
        go_ret
        exact ⟨by rw [hv'.out]; simp; omega, HB.out⟩
end Go.Proofs.Ytmcmkobdkkibkab
