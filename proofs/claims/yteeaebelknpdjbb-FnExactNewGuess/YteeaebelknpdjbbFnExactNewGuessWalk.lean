/-
  The law FnExactNewGuess answers true at every argument.
-/
import Derived.Test.YteeaebelknpdjbbNewGuessLaw
import Derived.Test.YteeaebelknpdjbbSNewG
import Derived.Test.YteeaebelknpdjbbINewG
namespace Go.Proofs.Yteeaebelknpdjbb
open Go.RowKit

theorem FnExactNewGuess_walk (n0 : Int) (w : World) :
    Calls Try.prog 3 #[.int .i64 n0] w fun e w' => e = .returned (.bool true) ∧ Below w.heap.size w w' := by
  cases h : newB n0 with
  | true => exact FnExactNewGuess_law n0 w (newG n0) true (fun w => snewG_yes n0 h w) (fun w => inewG_yes n0 h w)
  | false => exact FnExactNewGuess_law n0 w (0, 0, 0, 0) false (fun w => snewG_no n0 h w) (fun w => inewG_no n0 h w)
end Go.Proofs.Yteeaebelknpdjbb
