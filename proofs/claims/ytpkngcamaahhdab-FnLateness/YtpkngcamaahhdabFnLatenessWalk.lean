/-
  The law FnLateness answers true at every list of bytes.
-/
import Derived.Test.YtpkngcamaahhdabFnLatenessLaw
import Derived.Test.YtpkngcamaahhdabILaten
import Derived.Test.YtpkngcamaahhdabIFns5
import Derived.Test.YtpkngcamaahhdabIComp
namespace Go.Proofs.Ytpkngcamaahhdab
open Go.RowKit

theorem FnLateness_walk (a0 : Option Addr) (len0 cap0 : Nat) (z0 : List Int) (a1 : Option Addr) (len1 cap1 : Nat) (z1 : List Int) (w : World) (h0 : IsRow .u8 w a0 len0 cap0 z0) (h1 : IsRow .u8 w a1 len1 cap1 z1) (b0 : cap0 * 1 ≤ 140737488351232) (b1 : cap1 * 1 ≤ 140737488351232) :
    Calls Try.prog 5 #[.slice a0 len0 cap0, .slice a1 len1 cap1] w fun e w' => e = .returned (.bool true) ∧ Below w.heap.size w w' :=
  FnLateness_law a0 len0 cap0 z0 a1 len1 cap1 z1 w h0 h1 b0 b1
    ⟨fun v vo xs ys w hr hs hn => ilaten_no v vo xs ys w hr hs hn, fun v vo xs os w hr hs hg ho => ilaten_yes v vo xs os w hr hs hg ho⟩
    ⟨fun v xs w hr hg => ibyendfn_no v xs w hr hg, fun v xs w hr hg => ibyendfn_yes v xs w hr hg⟩
    ⟨fun v vo xs ys w hr hs hn => icomp_no v vo xs ys w hr hs hn, fun v vo xs os w hr hs hg ho => icomp_yes v vo xs os w hr hs hg ho⟩
end Go.Proofs.Ytpkngcamaahhdab
