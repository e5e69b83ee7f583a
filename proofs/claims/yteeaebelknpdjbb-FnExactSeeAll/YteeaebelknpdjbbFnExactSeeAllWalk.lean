/-
  The law FnExactSeeAll answers true at every argument.
-/
import Derived.Test.YteeaebelknpdjbbSeeAllLaw
import Derived.Test.YteeaebelknpdjbbSSeeAll
import Derived.Test.YteeaebelknpdjbbISeeAll
namespace Go.Proofs.Yteeaebelknpdjbb
open Go.RowKit

theorem FnExactSeeAll_walk (n0 : Int) (a1 : Option Addr) (len1 cap1 : Nat) (xs1 : List SeEl) (w : World) (hrow1 : SeArg w a1 len1 cap1 xs1) :
    Calls Try.prog 7 #[.int .i64 n0, .slice a1 len1 cap1] w fun e w' => e = .returned (.bool true) ∧ Below w.heap.size w w' :=
  FnExactSeeAll_law n0 a1 len1 cap1 xs1 w hrow1 _ (seeAllB n0 xs1) (fun v w r => sseeAll_any n0 v xs1 _ rfl _ rfl w r) (fun v w r => iseeAll_any n0 v xs1 _ rfl _ rfl w r)
end Go.Proofs.Yteeaebelknpdjbb
