/-
  The law FnShaped answers true at every list of bytes.
-/
import Derived.Test.YtcieefggijjekacFnShapedLaw
import Derived.Test.YtcieefggijjekacIShapeFn
import Derived.Test.YtcieefggijjekacIConf
import Derived.Test.YtcieefggijjekacITickB
import Derived.Test.YtcieefggijjekacITakeB
import Derived.Test.YtcieefggijjekacINewB
namespace Go.Proofs.Ytcieefggijjekac
open Go.RowKit

theorem FnShaped_walk (a0 : Option Addr) (len0 cap0 : Nat) (z0 : List Int) (a1 : Option Addr) (len1 cap1 : Nat) (z1 : List Int) (w : World) (h0 : IsRow .u8 w a0 len0 cap0 z0) (h1 : IsRow .u8 w a1 len1 cap1 z1) (b0 : cap0 * 1 ≤ 140737488351232) (b1 : cap1 * 1 ≤ 140737488351232) :
    Calls Try.prog 3 #[.slice a0 len0 cap0, .slice a1 len1 cap1] w fun e w' => e = .returned (.bool true) ∧ Below w.heap.size w w' :=
  FnShaped_law a0 len0 cap0 z0 a1 len1 cap1 z1 w h0 h1 b0 b1
    ⟨fun r d v xs w hr hn => ishapefn_no r d v xs w hr hn, fun r d v xs w hr hb hf => ishapefn_yes r d v xs w hr hb hf⟩
    ⟨fun r d v xs w hr hn => iconf_no r d v xs w hr hn, fun r d v xs w hr hb hf => iconf_yes r d v xs w hr hb hf⟩
    ⟨fun x h w => itickfn_no x h w, fun x h w => itickfn_yes x h w⟩
    ⟨fun x n h w => itakefn_no x n h w, fun x n h w => itakefn_yes x n h w⟩
    ⟨fun r d h w => inew_no r d h w, fun r d h w => inew_yes r d h w⟩
    (fun x t h w => igoodB_eq x t h w)
end Go.Proofs.Ytcieefggijjekac
