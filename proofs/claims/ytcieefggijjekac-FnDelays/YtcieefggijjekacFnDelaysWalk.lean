/-
  The law FnDelays answers true at every list of bytes.
-/
import Derived.Test.YtcieefggijjekacFnDelaysLaw
import Derived.Test.YtcieefggijjekacIConf
import Derived.Test.YtcieefggijjekacIPassFn
import Derived.Test.YtcieefggijjekacIWorst
namespace Go.Proofs.Ytcieefggijjekac
open Go.RowKit

theorem FnDelays_walk (a0 : Option Addr) (len0 cap0 : Nat) (z0 : List Int) (a1 : Option Addr) (len1 cap1 : Nat) (z1 : List Int) (w : World) (h0 : IsRow .u8 w a0 len0 cap0 z0) (h1 : IsRow .u8 w a1 len1 cap1 z1) (b0 : cap0 * 1 ≤ 140737488351232) (b1 : cap1 * 1 ≤ 140737488351232) :
    Calls Try.prog 4 #[.slice a0 len0 cap0, .slice a1 len1 cap1] w fun e w' => e = .returned (.bool true) ∧ Below w.heap.size w w' :=
  FnDelays_law a0 len0 cap0 z0 a1 len1 cap1 z1 w h0 h1 b0 b1
    ⟨fun r d v xs w hr hn => iconf_no r d v xs w hr hn, fun r d v xs w hr hb hf => iconf_yes r d v xs w hr hb hf⟩
    ⟨fun v xs s w hr hn => ipassfn_no v xs s w hr hn, fun v xs s w hr hf h1 h2 => ipassfn_yes v xs s w hr hf h1 h2⟩
    (fun v u xs ys w hr hu => iworst_eq v u xs ys w hr hu)
end Go.Proofs.Ytcieefggijjekac
