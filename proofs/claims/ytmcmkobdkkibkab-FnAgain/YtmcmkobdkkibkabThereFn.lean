/-
  Whether tasks are as said and a number is one of theirs: plain words.
-/
import Derived.Test.YtmcmkobdkkibkabAgnLoad
namespace Go.Proofs.Ytmcmkobdkkibkab

def thereI (xs : List AgEl) (k : Int) : Bool := goodA xs && (decide (0 ≤ k) && decide (k < (xs.length : Int)))
end Go.Proofs.Ytmcmkobdkkibkab
