/-
  The law FnExactRunAgain answers true at every list of tasks.
-/
import Derived.Test.YtmcmkobdkkibkaxRunAgainLaw
import Derived.Test.YtmcmkobdkkibkaxSRunFn
import Derived.Test.YtmcmkobdkkibkaxIRunFn
namespace Go.Proofs.Ytmcmkobdkkibkax
open Go.RowKit

theorem FnExactRunAgain_walk (a0 : Option Addr) (len0 cap0 : Nat) (xs0 : List AgEl) (n1 : Int) (w : World) (h0 : AgArg w a0 len0 cap0 xs0) :
    Calls Try.prog 8 #[.slice a0 len0 cap0, .int .i64 n1] w fun e w' => e = .returned (.bool true) ∧ Below w.heap.size w w' := by
  cases hg : runB xs0 n1 with
  | true =>
    obtain ⟨hg1, m, rfl, h1, h2⟩ : goodA xs0 = true ∧ ∃ m : Nat, n1 = m ∧ 1 ≤ m ∧ m ≤ 200 := by
      unfold runB at hg
      rw [Bool.and_eq_true, decide_eq_true_eq] at hg
      exact ⟨hg.1, n1.toNat, by omega, by omega, by omega⟩
    exact FnExactRunAgain_law a0 len0 cap0 xs0 _ w h0 (runL xs0 m) (by rw [runL_len]; omega) true (fun v0 w r0 => srunfn_yes v0 xs0 m w r0 hg1 h1 h2) (fun v0 w r0 => irunfn_yes v0 xs0 m w r0 hg1 h1 h2)
  | false => exact FnExactRunAgain_law a0 len0 cap0 xs0 n1 w h0 [] (by simp) false (fun v0 w r0 => srunfn_no v0 xs0 n1 w r0 hg) (fun v0 w r0 => irunfn_no v0 xs0 n1 w r0 hg)
end Go.Proofs.Ytmcmkobdkkibkax
