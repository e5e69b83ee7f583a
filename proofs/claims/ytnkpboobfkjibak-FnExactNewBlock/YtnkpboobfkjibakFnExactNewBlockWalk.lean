/-
  The law FnExactNewBlock answers true at any numbers.
-/
import Derived.Test.YtnkpboobfkjibakNewBlockLaw
import Derived.Test.YtnkpboobfkjibakSNewBl
import Derived.Test.YtnkpboobfkjibakINewBl
namespace Go.Proofs.Ytnkpboobfkjibak
open Go.RowKit

theorem newBl_tot (z l : Int) : blTot (newBl z l) ≤ 1048576 := by
  unfold newBl
  cases h : idB z l
  · show blTot zeroBl ≤ _
    decide
  · show (zTxt l.toNat).size + ([] : List SpEl).length ≤ _
    rw [size_zTxt]
    unfold idB at h
    rw [Bool.and_eq_true, decide_eq_true_eq, decide_eq_true_eq] at h
    simp
    omega
theorem FnExactNewBlock_walk (n0 n1 : Int) (w : World) :
    Calls Try.prog 5 #[.int .i64 n0, .int .i64 n1] w fun e w' => e = .returned (.bool true) ∧ Below w.heap.size w w' :=
  FnExactNewBlock_law n0 n1 w (newBl n0 n1) (newBl_tot n0 n1) (idB n0 n1) (fun w => snewBl_any n0 n1 w _ _ rfl rfl) (fun w => inewBl_any n0 n1 w _ _ rfl rfl)
end Go.Proofs.Ytnkpboobfkjibak
