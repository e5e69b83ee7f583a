/-
  impl.RunAgain: the run of tasks that come again, in memory of its own. Nothing old is written.
-/
import Derived.Test.YtmcmkobdkkibkabIAgain
import Derived.Test.YtmcmkobdkkibkabIRunA
namespace Go.Proofs.Ytmcmkobdkkibkab
open Go.RowKit

def runBI (xs : List AgEl) (n : Int) : Bool := goodA xs && decide (1 ≤ n ∧ n ≤ 200)
set_option maxHeartbeats 2000000 in
theorem irunfn_no (v : Value) (xs : List AgEl) (n : Int) (w : World) (hr : AgReads w v xs) (hn : runBI xs n = false) :
    Calls Try.prog 44 #[v, .int .i64 n] w fun e w' => ∃ u0, e = .returned (.tuple #[u0, .bool false]) ∧ KOwn w.heap.size w'.heap.size w' u0 [] ∧ Below w.heap.size w w' := by
  have HR := hid hr
  have HN := hid hn
  clear hr hn
  obtain ⟨b, hb⟩ : ∃ b, goodA xs = b := ⟨_, rfl⟩
  have HG := hid hb
  clear hb
  cases b
  · go_enter Try.func44, Try.ntmps44
    go_wp2_with fail
    refine (igoodAgain_eq _ xs false HG.out _ HR.out).mono ?_
    rintro e w1 ⟨rfl, b1⟩
    have B1 := hid b1
    clear b1
    go_wp2
    go_ret2
    exact ⟨_, rfl, kown_nil _ _ _ _ _, B1.out⟩
  · by_cases h0 : n < 1
    · have d0 : decide (n < 1) = true := by simpa using h0
      go_enter Try.func44, Try.ntmps44
      go_wp2_with fail
      refine (igoodAgain_eq _ xs true HG.out _ HR.out).mono ?_
      rintro e w1 ⟨rfl, b1⟩
      have B1 := hid b1
      clear b1
      go_wp2
      go_ret2
      exact ⟨_, rfl, kown_nil _ _ _ _ _, B1.out⟩
    · have d0 : decide (n < 1) = false := by simpa using h0
      have d1 : decide (200 < n) = true := by
        have := HN.out
        unfold runBI at this
        rw [HG.out, Bool.true_and, decide_eq_false_iff_not] at this
        rw [decide_eq_true_eq]
        omega
      go_enter Try.func44, Try.ntmps44
      go_wp2_with fail
      refine (igoodAgain_eq _ xs true HG.out _ HR.out).mono ?_
      rintro e w1 ⟨rfl, b1⟩
      have B1 := hid b1
      clear b1
      go_wp2
      go_ret2
      exact ⟨_, rfl, kown_nil _ _ _ _ _, B1.out⟩
set_option maxHeartbeats 2000000 in
theorem irunfn_yes (v : Value) (xs : List AgEl) (n : Nat) (w : World) (hr : AgReads w v xs) (hg : goodA xs = true) (h1 : 1 ≤ n) (h2 : n ≤ 200) :
    Calls Try.prog 44 #[v, .int .i64 (n : Nat)] w fun e w' => ∃ u0, e = .returned (.tuple #[u0, .bool true]) ∧ KOwn w.heap.size w'.heap.size w' u0 (runL xs n) ∧ Below w.heap.size w w' := by
  have HR := hid hr
  have HG := hid hg
  have d0 : decide ((n : Int) < 1) = false := by rw [decide_eq_false_iff_not]; omega
  have d1 : decide (200 < (n : Int)) = false := by rw [decide_eq_false_iff_not]; omega
  clear hr hg
  go_enter Try.func44, Try.ntmps44
  go_wp2_with fail
  refine (igoodAgain_eq _ xs true HG.out _ HR.out).mono ?_
  rintro e w1 ⟨rfl, b1⟩
  have B1 := hid b1
  clear b1
  go_wp2_with fail
  refine (irun_any _ xs n _ (HR.out.below B1.out) HG.out h2).mono ?_
  rintro e w2 ⟨g, rfl, hrow, hge, b2⟩
  have O2 : Hid (KOwn w.heap.size w2.heap.size w2 (.slice (some ⟨g, 0, none⟩) n n) (runL xs n)) := hrow.own (by omega) (by have := B1.out.size; omega) hrow.caps.2.2
  have B2 : Hid (Below w.heap.size w w2) := B1.out.trans (b2.mono B1.out.size)
  clear hrow b2 hge
  go_wp2
  go_ret2
  exact ⟨_, rfl, O2.out, B2.out⟩
end Go.Proofs.Ytmcmkobdkkibkab
