/-
  spec.RunAgain: the run of tasks that come again, in memory of its own. Nothing old is written.
-/
import Derived.Test.YtmcmkobdkkibkabSAgain
import Derived.Test.YtmcmkobdkkibkabSRun
namespace Go.Proofs.Ytmcmkobdkkibkab
open Go.RowKit

def runB (xs : List AgEl) (n : Int) : Bool := goodA xs && decide (1 ≤ n ∧ n ≤ 200)
set_option maxHeartbeats 2000000 in
theorem srunfn_no (v : Value) (xs : List AgEl) (n : Int) (w : World) (hr : AgReads w v xs) (hn : runB xs n = false) :
    Calls Try.prog 45 #[v, .int .i64 n] w fun e w' => ∃ u0, e = .returned (.tuple #[u0, .bool false]) ∧ KOwn w.heap.size w'.heap.size w' u0 [] ∧ Below w.heap.size w w' := by
  have HR := hid hr
  obtain ⟨b, hb⟩ : ∃ b, goodA xs = b := ⟨_, rfl⟩
  have HG := hid hb
  cases b
  · clear hr hb hn
    go_enter Try.func45, Try.ntmps45
    go_wp2_with fail
    refine (sgoodAgain_eq _ xs false HG.out _ HR.out).mono ?_
    rintro e w1 ⟨rfl, b1⟩
    have B1 := hid b1
    clear b1
    go_wp2
    go_ret2
    exact ⟨_, rfl, kown_nil _ _ _ _ _, B1.out⟩
  · have HN : Hid (decide (1 ≤ n ∧ n ≤ 200) = false) := by unfold runB at hn; rw [hb, Bool.true_and] at hn; exact hn
    clear hr hb hn
    go_enter Try.func45, Try.ntmps45
    go_wp2_with fail
    refine (sgoodAgain_eq _ xs true HG.out _ HR.out).mono ?_
    rintro e w1 ⟨rfl, b1⟩
    have B1 := hid b1
    clear b1
    go_wp2_with fail
    refine (l1In_eq n 1 200 false HN.out _).mono ?_
    rintro e w' ⟨rfl, hw⟩; obtain rfl := hw.symm
    go_wp2
    go_ret2
    exact ⟨_, rfl, kown_nil _ _ _ _ _, B1.out⟩
set_option maxHeartbeats 2000000 in
theorem srunfn_yes (v : Value) (xs : List AgEl) (n : Nat) (w : World) (hr : AgReads w v xs) (hg : goodA xs = true) (h1 : 1 ≤ n) (h2 : n ≤ 200) :
    Calls Try.prog 45 #[v, .int .i64 (n : Nat)] w fun e w' => ∃ u0, e = .returned (.tuple #[u0, .bool true]) ∧ KOwn w.heap.size w'.heap.size w' u0 (runL xs n) ∧ Below w.heap.size w w' := by
  have HR := hid hr
  have HG := hid hg
  have HN : Hid (decide (1 ≤ (n : Int) ∧ (n : Int) ≤ 200) = true) := by show _ = _; rw [decide_eq_true_eq]; omega
  clear hr hg
  go_enter Try.func45, Try.ntmps45
  go_wp2_with fail
  refine (sgoodAgain_eq _ xs true HG.out _ HR.out).mono ?_
  rintro e w1 ⟨rfl, b1⟩
  have B1 := hid b1
  clear b1
  go_wp2_with fail
  refine (l1In_eq n 1 200 true HN.out _).mono ?_
  rintro e w' ⟨rfl, hw⟩; obtain rfl := hw.symm
  go_wp2_with fail
  refine (srun_any _ xs n _ (HR.out.below B1.out) HG.out h2).mono ?_
  rintro e w2 ⟨u, rfl, hown, b2⟩
  have O2 := hid (hown.mono B1.out.size (Nat.le_refl _))
  have B2 : Hid (Below w.heap.size w w2) := B1.out.trans (b2.mono B1.out.size)
  clear hown b2
  go_wp2
  go_ret2
  exact ⟨_, rfl, O2.out, B2.out⟩
end Go.Proofs.Ytmcmkobdkkibkab
