/-
  The law FnRates answers true at every list of bytes.
-/
import Derived.Test.YtmcmkobdkkibkabFnRatesLaw
import Derived.Test.YtmcmkobdkkibkabIAll
import Derived.Test.YtmcmkobdkkibkabIByRate
import Derived.Test.YtmcmkobdkkibkabILoad
namespace Go.Proofs.Ytmcmkobdkkibkab
open Go.RowKit

theorem FnRates_walk (a0 : Option Addr) (len0 cap0 : Nat) (z0 : List Int) (a1 : Option Addr) (len1 cap1 : Nat) (z1 : List Int) (w : World) (h0 : IsRow .u8 w a0 len0 cap0 z0) (h1 : IsRow .u8 w a1 len1 cap1 z1) (b0 : cap0 * 1 ≤ 140737488351232) (b1 : cap1 * 1 ≤ 140737488351232) :
    Calls Try.prog 7 #[.slice a0 len0 cap0, .slice a1 len1 cap1] w fun e w' => e = .returned (.bool true) ∧ Below w.heap.size w w' :=
  FnRates_law a0 len0 cap0 z0 a1 len1 cap1 z1 w h0 h1 b0 b1
    ⟨fun v xs w hr hg => iall_no v xs w hr hg, fun v xs w hr hg => iall_yes v xs w hr hg⟩
    ⟨fun v xs w hr hg => ibyrate_no v xs w hr hg, fun v xs w hr hg => ibyrate_yes v xs w hr hg⟩
    ⟨fun v xs w hr hg => iload_no v xs w hr hg, fun v xs w hr hg => iload_yes v xs w hr hg⟩
end Go.Proofs.Ytmcmkobdkkibkab
