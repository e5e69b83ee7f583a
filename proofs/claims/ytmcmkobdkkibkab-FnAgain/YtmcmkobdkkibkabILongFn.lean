/-
  impl.LongestOf: how long a task takes at most, and whether within bounds. Nothing old is written.
-/
import Derived.Test.YtmcmkobdkkibkabIAgain
import Derived.Test.YtmcmkobdkkibkabILong
import Derived.Test.YtmcmkobdkkibkabThereFn
import Derived.OwnWalk
namespace Go.Proofs.Ytmcmkobdkkibkab
open Go.RowKit

set_option maxHeartbeats 2000000 in
theorem ilongfn_no (v : Value) (xs : List AgEl) (k : Int) (w : World) (hr : AgReads w v xs) (hn : thereI xs k = false) :
    Calls Try.prog 37 #[v, .int .i64 k] w fun e w' => e = .returned (.tuple #[.int .i64 0, .bool false, .bool false]) ∧ Below w.heap.size w w' := by
  have HR := hid hr
  have HN := hid hn
  obtain ⟨a, cap, rfl, _, _⟩ := hr
  clear hn
  obtain ⟨b, hb⟩ : ∃ b, goodA xs = b := ⟨_, rfl⟩
  have HG := hid hb
  clear hb
  cases b
  · go_enter Try.func37, Try.ntmps37
    go_wp2_with fail
    refine (igoodAgain_eq _ xs false HG.out _ HR.out).mono ?_
    rintro e w1 ⟨rfl, b1⟩
    have B1 := hid b1
    clear b1
    go_wp2
    go_ret3
    exact ⟨rfl, B1.out⟩
  · by_cases h0 : k < 0
    · have d0 : decide (k < 0) = true := by simpa using h0
      go_enter Try.func37, Try.ntmps37
      go_wp2_with fail
      refine (igoodAgain_eq _ xs true HG.out _ HR.out).mono ?_
      rintro e w1 ⟨rfl, b1⟩
      have B1 := hid b1
      clear b1
      go_wp2
      go_ret3
      exact ⟨rfl, B1.out⟩
    · have d0 : decide (k < 0) = false := by simpa using h0
      have d1 : decide ((xs.length : Int) ≤ k) = true := by
        have := HN.out
        unfold thereI at this
        rw [HG.out, decide_eq_true (p := 0 ≤ k) (by omega), Bool.true_and, Bool.true_and, decide_eq_false_iff_not] at this
        rw [decide_eq_true_eq]
        omega
      go_enter Try.func37, Try.ntmps37
      go_wp2_with fail
      refine (igoodAgain_eq _ xs true HG.out _ HR.out).mono ?_
      rintro e w1 ⟨rfl, b1⟩
      have B1 := hid b1
      clear b1
      go_wp2
      go_ret3
      exact ⟨rfl, B1.out⟩
set_option maxHeartbeats 2000000 in
theorem ilongfn_yes (v : Value) (xs : List AgEl) (k : Nat) (w : World) (hr : AgReads w v xs) (hg : goodA xs = true) (hk : k < xs.length) :
    Calls Try.prog 37 #[v, .int .i64 (k : Nat)] w fun e w' => e = .returned (.tuple #[.int .i64 (lgN xs k), .bool (lgB xs k), .bool true]) ∧ Below w.heap.size w w' := by
  have HR := hid hr
  have HG := hid hg
  obtain ⟨a, cap, rfl, _, _⟩ := hr
  have d0 : decide ((k : Int) < 0) = false := by rw [decide_eq_false_iff_not]; omega
  have d1 : decide ((xs.length : Int) ≤ (k : Int)) = false := by rw [decide_eq_false_iff_not]; omega
  clear hg
  go_enter Try.func37, Try.ntmps37
  go_wp2_with fail
  refine (igoodAgain_eq _ xs true HG.out _ HR.out).mono ?_
  rintro e w1 ⟨rfl, b1⟩
  have B1 := hid b1
  clear b1
  go_wp2_with fail
  refine (ilongest_any _ xs k _ (HR.out.below B1.out) HG.out hk).mono ?_
  rintro e w2 ⟨rfl, b2⟩
  have B2 : Hid (Below w.heap.size w w2) := B1.out.trans (b2.mono B1.out.size)
  clear b2
  go_wp2
  go_ret3
  exact ⟨rfl, B2.out⟩
end Go.Proofs.Ytmcmkobdkkibkab
