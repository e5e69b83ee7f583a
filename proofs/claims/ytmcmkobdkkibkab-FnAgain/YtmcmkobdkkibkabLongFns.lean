/-
  What LongestOf and FirstDone tell of a task: plain words.
-/
import Derived.Test.YtmcmkobdkkibkabAgnLoad
namespace Go.Proofs.Ytmcmkobdkkibkab

def lgN (xs : List AgEl) (k : Nat) : Int := if longA xs k < 0 then 0 else longA xs k
def lgB (xs : List AgEl) (k : Nat) : Bool := decide (0 ≤ longA xs k)
end Go.Proofs.Ytmcmkobdkkibkab
