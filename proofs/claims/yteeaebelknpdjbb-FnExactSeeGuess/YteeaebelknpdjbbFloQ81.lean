/-
  Numbers over 8 by floats, a third of them: reckoned by the kernel.
-/
import Derived.Test.YteeaebelknpdjbbFloMath
namespace Go.Proofs.Yteeaebelknpdjbb
theorem isQ8_3 : isQs 8 900 2700 = true := by decide +kernel
theorem isQ8_4 : isQs 8 900 3600 = true := by decide +kernel
theorem isQ8_5 : isQs 8 900 4500 = true := by decide +kernel
end Go.Proofs.Yteeaebelknpdjbb
