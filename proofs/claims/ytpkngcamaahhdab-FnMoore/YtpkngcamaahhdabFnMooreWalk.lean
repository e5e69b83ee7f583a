/-
  The law FnMoore answers true at every list of bytes.
-/
import Derived.Test.YtpkngcamaahhdabFnMooreLaw
import Derived.Test.YtpkngcamaahhdabILats
import Derived.Test.YtpkngcamaahhdabIMoore
import Derived.Test.YtpkngcamaahhdabIBest
namespace Go.Proofs.Ytpkngcamaahhdab
open Go.RowKit

theorem FnMoore_walk (a0 : Option Addr) (len0 cap0 : Nat) (z0 : List Int) (a1 : Option Addr) (len1 cap1 : Nat) (z1 : List Int) (w : World) (h0 : IsRow .u8 w a0 len0 cap0 z0) (h1 : IsRow .u8 w a1 len1 cap1 z1) (b0 : cap0 * 1 ≤ 140737488351232) (b1 : cap1 * 1 ≤ 140737488351232) :
    Calls Try.prog 4 #[.slice a0 len0 cap0, .slice a1 len1 cap1] w fun e w' => e = .returned (.bool true) ∧ Below w.heap.size w w' :=
  FnMoore_law a0 len0 cap0 z0 a1 len1 cap1 z1 w h0 h1 b0 b1
    (fun v xs t h w hr => igoodTasks_eq v xs t h w hr)
    ⟨fun v vo xs ys w hr hs hn => ilatem_no v vo xs ys w hr hs hn, fun v vo xs os w hr hs hg ho => ilatem_yes v vo xs os w hr hs hg ho⟩
    ⟨fun v xs w hr hg => imoorefn_no v xs w hr hg, fun v xs w hr hg => imoorefn_yes v xs w hr hg⟩
    ⟨fun v xs w hr hg => ibestfn_no v xs w hr hg, fun v xs w hr hg => ibestfn_yes v xs w hr hg⟩
end Go.Proofs.Ytpkngcamaahhdab
