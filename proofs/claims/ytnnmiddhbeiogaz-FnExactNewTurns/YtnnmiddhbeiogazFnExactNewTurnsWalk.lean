/-
  The law FnExactNewTurns answers true at any quanta.
-/
import Derived.Test.YtnnmiddhbeiogazNewTurnsLaw
import Derived.Test.YtnnmiddhbeiogazSNewT
import Derived.Test.YtnnmiddhbeiogazSNewTNo
import Derived.Test.YtnnmiddhbeiogazINewT
namespace Go.Proofs.Ytnnmiddhbeiogaz
open Go.RowKit

theorem FnExactNewTurns_walk (a0 : Option Addr) (len0 cap0 : Nat) (D0 : List Int) (w : World) (h0 : KArg w a0 len0 cap0 D0) :
    Calls Try.prog 8 #[.slice a0 len0 cap0] w fun e w' => e = .returned (.bool true) ∧ Below w.heap.size w w' := by
  cases hg : newOk D0 with
  | true =>
    have hl : D0.length ≤ 4 := by
      have := hg
      unfold newOk at this
      simp only [Bool.and_eq_true, decide_eq_true_eq] at this
      omega
    exact FnExactNewTurns_law a0 len0 cap0 D0 w h0 (newT D0) (newT_tot hl) true (fun v w r => snewT_yes v D0 w r hg) (fun v w r => inewT_yes v D0 w r hg)
  | false => exact FnExactNewTurns_law a0 len0 cap0 D0 w h0 noT (by decide) false (fun v w r => snewT_no v D0 w r hg) (fun v w r => inewT_no v D0 w r hg)
end Go.Proofs.Ytnnmiddhbeiogaz
