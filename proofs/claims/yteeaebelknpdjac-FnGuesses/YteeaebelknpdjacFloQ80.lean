/-
  Numbers over 8 by floats, a third of them: reckoned by the kernel.
-/
import Derived.Test.YteeaebelknpdjacFloMath
namespace Go.Proofs.Yteeaebelknpdjac
theorem isQ8_0 : isQs 8 900 0 = true := by decide +kernel
theorem isQ8_1 : isQs 8 900 900 = true := by decide +kernel
theorem isQ8_2 : isQs 8 900 1800 = true := by decide +kernel
end Go.Proofs.Yteeaebelknpdjac
