/-
  spec.l6There: whether tasks are as said and a number is one of theirs. Nothing old is written.
-/
import Derived.Test.YtmcmkobdkkibkabSAgain
namespace Go.Proofs.Ytmcmkobdkkibkab
open Go.RowKit

def thereA (xs : List AgEl) (k : Int) : Bool := goodA xs && (decide (0 ≤ k) && decide (k < (xs.length : Int)))
theorem thereA_of {xs : List AgEl} {k : Int} (h : thereA xs k = true) : goodA xs = true ∧ ∃ j : Nat, k = j ∧ j < xs.length := by
  unfold thereA at h
  rw [Bool.and_eq_true, Bool.and_eq_true, decide_eq_true_eq, decide_eq_true_eq] at h
  exact ⟨h.1, k.toNat, by omega, by omega⟩
set_option maxHeartbeats 2000000 in
theorem sthere_eq (v : Value) (xs : List AgEl) (k : Int) (t : Bool) (h : thereA xs k = t) (w : World) (hr : AgReads w v xs) :
    Calls Try.prog 89 #[v, .int .i64 k] w fun e w' => e = .returned (.bool t) ∧ Below w.heap.size w w' := by
  have HT : Hid ((goodA xs && (decide (0 ≤ k) && decide (k < (xs.length : Int)))) = t) := h
  clear h
  have HR := hid hr
  obtain ⟨a, cap, rfl, _, _⟩ := hr
  obtain ⟨b, hb⟩ : ∃ b, goodA xs = b := ⟨_, rfl⟩
  have HG := hid hb
  clear hb
  cases b
  · have hv : Hid (t = false) := by show _ = _; rw [← HT.out, HG.out]; rfl
    go_enter Try.func89, Try.ntmps89
    go_wp2_with fail
    refine (sgoodAgain_eq _ xs false HG.out _ HR.out).mono ?_
    rintro e w1 ⟨rfl, b1⟩
    have B1 := hid b1
    clear b1
    go_wp2
    go_ret
    exact ⟨by rw [hv.out]; rfl, B1.out⟩
  · by_cases h0 : 0 ≤ k
    · have d0 : decide (0 ≤ k) = true := by simpa using h0
      have hv : Hid (decide (k < (xs.length : Int)) = t) := by show _ = _; rw [← HT.out, HG.out, d0]; rfl
      obtain ⟨d, hd⟩ : ∃ d, decide (k < (xs.length : Int)) = d := ⟨_, rfl⟩
      rw [hd] at hv
      clear h0
      go_enter Try.func89, Try.ntmps89
      go_wp2_with fail
      refine (sgoodAgain_eq _ xs true HG.out _ HR.out).mono ?_
      rintro e w1 ⟨rfl, b1⟩
      have B1 := hid b1
      clear b1
      go_wp2
      go_ret
      exact ⟨by rw [← hv.out]; rfl, B1.out⟩
    · have d0 : decide (0 ≤ k) = false := by simpa using h0
      have hv : Hid (t = false) := by show _ = _; rw [← HT.out, HG.out, d0]; rfl
      clear h0
      go_enter Try.func89, Try.ntmps89
      go_wp2_with fail
      refine (sgoodAgain_eq _ xs true HG.out _ HR.out).mono ?_
      rintro e w1 ⟨rfl, b1⟩
      have B1 := hid b1
      clear b1
      go_wp2
      go_ret
      exact ⟨by rw [hv.out]; rfl, B1.out⟩
end Go.Proofs.Ytmcmkobdkkibkab
