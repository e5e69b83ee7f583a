/-
  Numbers over 8 by floats, a third of them: reckoned by the kernel.
-/
import Derived.Test.YteeaebelknpdjacFloMath
namespace Go.Proofs.Yteeaebelknpdjac
theorem isQ8_6 : isQs 8 900 5400 = true := by decide +kernel
theorem isQ8_7 : isQs 8 900 6300 = true := by decide +kernel
theorem isQ8_8 : isQs 8 900 7200 = true := by decide +kernel
end Go.Proofs.Yteeaebelknpdjac
