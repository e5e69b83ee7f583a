/-
  The type of rows of rows of numbers. A fact of the program.
-/
import Derived.Test.YtnnmiddhbeiogazInts
namespace Go.Proofs.Ytnnmiddhbeiogaz
open Go.RowKit

theorem info_ints : (Try.prog.info? 30).map (fun i => (i.zero, i.size, i.bytes)) = some (some (.slice none 0 0), 1, 24) := by kernel_rfl
end Go.Proofs.Ytnnmiddhbeiogaz
