/-
  The law FnAgain answers true at every list of bytes.
-/
import Derived.Test.YtmcmkobdkkibkabFnAgainLaw
import Derived.Test.YtmcmkobdkkibkabIAgain
import Derived.Test.YtmcmkobdkkibkabILongFn
import Derived.Test.YtmcmkobdkkibkabIFirst
import Derived.Test.YtmcmkobdkkibkabIRunFn
namespace Go.Proofs.Ytmcmkobdkkibkab
open Go.RowKit

theorem FnAgain_walk (a0 : Option Addr) (len0 cap0 : Nat) (z0 : List Int) (a1 : Option Addr) (len1 cap1 : Nat) (z1 : List Int) (w : World) (h0 : IsRow .u8 w a0 len0 cap0 z0) (h1 : IsRow .u8 w a1 len1 cap1 z1) (b0 : cap0 * 1 ≤ 140737488351232) (b1 : cap1 * 1 ≤ 140737488351232) :
    Calls Try.prog 6 #[.slice a0 len0 cap0, .slice a1 len1 cap1] w fun e w' => e = .returned (.bool true) ∧ Below w.heap.size w w' :=
  FnAgain_law a0 len0 cap0 z0 a1 len1 cap1 z1 w h0 h1 b0 b1
    (fun v xs t h w hr => igoodAgain_eq v xs t h w hr)
    ⟨fun v xs k w hr hn => ilongfn_no v xs k w hr hn, fun v xs k w hr hg hk => ilongfn_yes v xs k w hr hg hk⟩
    ⟨fun v xs k w hr hn => ifirst_no v xs k w hr hn, fun v xs k w hr hg hk => ifirst_yes v xs k w hr hg hk⟩
    ⟨fun v xs n w hr hn => irunfn_no v xs n w hr hn, fun v xs n w hr hg h1 h2 => irunfn_yes v xs n w hr hg h1 h2⟩
end Go.Proofs.Ytmcmkobdkkibkab
