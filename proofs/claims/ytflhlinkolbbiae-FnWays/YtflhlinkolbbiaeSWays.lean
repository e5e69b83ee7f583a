/-
  spec.l14Ways: whether ways are as the document says. Nothing old is written.
-/
import Derived.Test.YtflhlinkolbbiaeSIn
import Derived.Test.YtflhlinkolbbiaeWyFns
namespace Go.Proofs.Ytflhlinkolbbiae
open Go.RowKit

set_option maxHeartbeats 2000000 in
theorem sways_eq (v : Value) (xs : List WyEl) (t : Bool) (h : wyB xs = t) (w : World) (hr : WyReads w v xs) :
    Calls Try.prog 89 #[v] w fun e w' => e = .returned (.bool t) ∧ Below w.heap.size w w' := by
  have HT : Hid ((xs.all wayB && decide (1 ≤ xs.length ∧ xs.length ≤ 4)) = t) := h
  clear h
  have HR := hid hr
  obtain ⟨a, cap, rfl, _, _⟩ := hr
  go_enter Try.func89, Try.ntmps89
  go_wp2
  go_loopw [7] (fun i wr => ∃ k : Nat, k ≤ xs.length ∧ i = .int .i64 k ∧ (xs.take k).all wayB = true ∧ Below w.heap.size w wr) (fun i _ => xs.length - (intOf i).toNat)
  case atStart => exact ⟨0, Nat.zero_le _, rfl, rfl, Below.refl _ _⟩
  case round =>
    obtain ⟨k, hk, rfl, hall, hbel⟩ := hrel
    have HA := hid hall
    have HB := hid hbel
    clear hall hbel
    by_cases hlt : k < xs.length
    · obtain ⟨g, o, cap', e, hc⟩ := (HR.out.below HB.out).cells k hlt
      cases e
      obtain ⟨p, hp⟩ : ∃ p, p = (xs.getD k (0, 0)).1 := ⟨_, rfl⟩
      obtain ⟨q, hq⟩ : ∃ q, q = (xs.getD k (0, 0)).2 := ⟨_, rfl⟩
      obtain ⟨c0, c1⟩ := hc k hlt
      rw [← hp] at c0
      rw [← hq] at c1
      have HK : Hid (wayB (xs.getD k (0, 0)) = (decide (0 ≤ p ∧ p ≤ 100) && decide (1 ≤ q ∧ q ≤ 20))) := by show _ = _; rw [hp, hq]; rfl
      clear hc hp hq
      by_cases h1 : 0 ≤ p ∧ p ≤ 100
      · have H1 : Hid (decide (0 ≤ p ∧ p ≤ 100) = true) := by show _ = _; simpa using h1
        clear h1
        by_cases h2 : 1 ≤ q ∧ q ≤ 20
        · have H2 : Hid (decide (1 ≤ q ∧ q ≤ 20) = true) := by show _ = _; simpa using h2
          have HS : Hid ((xs.take (k + 1)).all wayB = true) := by show _ = _; rw [wall_take xs k hlt, HA.out, HK.out, H1.out, H2.out]; rfl
          clear h2
          go_wp2_with fail
          refine (l1In_eq p 0 100 true H1.out _).mono ?_
          rintro e w' ⟨rfl, hw⟩; obtain rfl := hw.symm
          go_wp2_with fail
          refine (l1In_eq q 1 20 true H2.out _).mono ?_
          rintro e w' ⟨rfl, hw⟩; obtain rfl := hw.symm
          go_wp2
          go_roundw
          case rel => exact ⟨k + 1, by omega, by go_num, HS.out, HB.out.alloc HB.out.size _⟩
          case measure => simp [intOf]; omega
        · have H2 : Hid (decide (1 ≤ q ∧ q ≤ 20) = false) := by show _ = _; rw [decide_eq_false_iff_not]; exact h2
          have hv : Hid (t = false) := by have := HT.out; rw [wall_false k hlt (by rw [HK.out, H1.out, H2.out]; rfl)] at this; exact this.symm
          clear h2
          go_wp2_with fail
          refine (l1In_eq p 0 100 true H1.out _).mono ?_
          rintro e w' ⟨rfl, hw⟩; obtain rfl := hw.symm
          go_wp2_with fail
          refine (l1In_eq q 1 20 false H2.out _).mono ?_
          rintro e w' ⟨rfl, hw⟩; obtain rfl := hw.symm
          go_wp2
          go_ret
          exact ⟨by rw [hv.out]; rfl, HB.out.alloc HB.out.size _⟩
      · have H1 : Hid (decide (0 ≤ p ∧ p ≤ 100) = false) := by show _ = _; rw [decide_eq_false_iff_not]; exact h1
        have hv : Hid (t = false) := by have := HT.out; rw [wall_false k hlt (by rw [HK.out, H1.out]; rfl)] at this; exact this.symm
        clear h1
        go_wp2_with fail
        refine (l1In_eq p 0 100 false H1.out _).mono ?_
        rintro e w' ⟨rfl, hw⟩; obtain rfl := hw.symm
        go_wp2
        go_ret
        exact ⟨by rw [hv.out]; rfl, HB.out.alloc HB.out.size _⟩
    · obtain ⟨b, hb⟩ : ∃ b, decide ((1 : Int) ≤ (xs.length : Int) ∧ (xs.length : Int) ≤ 4) = b := ⟨_, rfl⟩
      have hv : Hid (t = b) := by
        show _ = _
        have h0 := HA.out
        rw [List.take_of_length_le (by omega)] at h0
        rw [← HT.out, ← hb, h0, Bool.true_and]
        congr 1
        simp; omega
      have HBb := hid hb
      clear hb
      go_wp2_with fail
      refine (l1In_eq _ 1 4 b HBb.out _).mono ?_
      rintro e w' ⟨rfl, hw⟩; obtain rfl := hw.symm
      go_wp2
      go_ret
      exact ⟨by rw [hv.out]; rfl, HB.out⟩
end Go.Proofs.Ytflhlinkolbbiae
