/-
  Numbers over 4 by floats: reckoned by the kernel.
-/
import Derived.Test.YteeaebelknpdjbbFloMath
namespace Go.Proofs.Yteeaebelknpdjbb
theorem isQ4_0 : isQs 4 900 0 = true := by decide +kernel
theorem isQ4_1 : isQs 4 900 900 = true := by decide +kernel
theorem isQ4_2 : isQs 4 900 1800 = true := by decide +kernel
theorem isQ4_3 : isQs 4 900 2700 = true := by decide +kernel
theorem isQ4_4 : isQs 4 900 3600 = true := by decide +kernel
end Go.Proofs.Yteeaebelknpdjbb
