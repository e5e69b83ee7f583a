/-
  No cell of these rows narrows 'for every input' (looked for: loops, veiled, ifaces, maps, wideKeys, modest, calm, conditions, laid).
  DERIVED. THE GIVEN ROWS OF THIS SEAT. 6 by the template 'for every input the law returns true; each argument reads behind the call as it read before'; 0 by the template 'total and deterministic' (their statements: YtmcmkobdkkibkaxTotals.lean).
  GIVEN WITH THE SEED: the statements are not yours to turn. If you find one false, say at which input.
  Laid BY PROGRAM, IN A SANDBOX (cutbox-rows.mjs): the forced cells as the released guide's own fill.sh prints them over the translation 95c1f0965d275485… (all of the seat's roots in one cut). By AI agents, Wed Nov 11 2026. No macro, syntax, notation, axiom, sorry.
-/
import Derived.Test.YtmcmkobdkkibkaxChecked
import GoSem.Claim
import GoSem.ClaimJoined
import GoSem.ClaimMapViews
import Derived.JoinedTies
import Derived.KernelRfl
namespace Go.Proofs.Ytmcmkobdkkibkax
/- THE CELL 'sum', in the pinned program and in every row, IS THE sha256 OF THE DUMP (.gsa) THAT YtmcmkobdkkibkaxProg.lean LOADS. Nothing in Lean hashes anything: it is a label: what it is worth is what the hold of that sum in a sandbox is worth. -/
noncomputable def Try.pinned : Pinned := { name := "ytmcmkobdkkibkax", sum := "95c1f0965d275485b8e9b11b9b89d40c6a9a1cea22fedf5735b844accd79a5b4", checked := Try.checked }
namespace Rows
def none {H : Type} : Left H := { results := [], args := [] }

/-- 'laws.FnExactBestMany': WHATEVER THE INPUT: true; the input reads as it did. -/
def fnExactBestManySpec : ChangeSpec := { name := "fnExactBestMany", fn := fun _ => fun
  | [d] => { results := [.lit (.bool true)], args := [d] }
  | _ => none }
def fnExactBestManyRow : OpenClaim := { program := "ytmcmkobdkkibkax", sum := "95c1f0965d275485b8e9b11b9b89d40c6a9a1cea22fedf5735b844accd79a5b4", func := "loop.example/g00527/laws.FnExactBestMany", spec := "fnExactBestMany", unfollowed := true, recurses := true, apart := false }
def FnExactBestManySaid : Prop := fnExactBestManyRow.holds Try.pinned (OpenSpec.ofChange fnExactBestManySpec)

/-- ITS FALSE NEIGHBOUR: 'it returns false'. Refute it at one input. -/
def fnExactBestManyWrong : ChangeSpec := { name := "fnExactBestMany", fn := fun _ => fun
  | [d] => { results := [.lit (.bool false)], args := [d] }
  | _ => none }
def FnExactBestManyWrongFalsely : Prop := fnExactBestManyRow.holds Try.pinned (OpenSpec.ofChange fnExactBestManyWrong)

/-- 'laws.FnExactCompletionsOf': WHATEVER THE INPUT: true; the input reads as it did. -/
def fnExactCompletionsOfSpec : ChangeSpec := { name := "fnExactCompletionsOf", fn := fun _ => fun
  | [d1, d2] => { results := [.lit (.bool true)], args := [d1, d2] }
  | _ => none }
def fnExactCompletionsOfRow : OpenClaim := { program := "ytmcmkobdkkibkax", sum := "95c1f0965d275485b8e9b11b9b89d40c6a9a1cea22fedf5735b844accd79a5b4", func := "loop.example/g00527/laws.FnExactCompletionsOf", spec := "fnExactCompletionsOf", unfollowed := true, recurses := true, apart := false }
def FnExactCompletionsOfSaid : Prop := fnExactCompletionsOfRow.holds Try.pinned (OpenSpec.ofChange fnExactCompletionsOfSpec)

/-- ITS FALSE NEIGHBOUR: 'it returns false'. Refute it at one input. -/
def fnExactCompletionsOfWrong : ChangeSpec := { name := "fnExactCompletionsOf", fn := fun _ => fun
  | [d1, d2] => { results := [.lit (.bool false)], args := [d1, d2] }
  | _ => none }
def FnExactCompletionsOfWrongFalsely : Prop := fnExactCompletionsOfRow.holds Try.pinned (OpenSpec.ofChange fnExactCompletionsOfWrong)

/-- 'laws.FnExactGoodAgain': WHATEVER THE INPUT: true; the input reads as it did. -/
def fnExactGoodAgainSpec : ChangeSpec := { name := "fnExactGoodAgain", fn := fun _ => fun
  | [d] => { results := [.lit (.bool true)], args := [d] }
  | _ => none }
def fnExactGoodAgainRow : OpenClaim := { program := "ytmcmkobdkkibkax", sum := "95c1f0965d275485b8e9b11b9b89d40c6a9a1cea22fedf5735b844accd79a5b4", func := "loop.example/g00527/laws.FnExactGoodAgain", spec := "fnExactGoodAgain", unfollowed := true, recurses := true, apart := false }
def FnExactGoodAgainSaid : Prop := fnExactGoodAgainRow.holds Try.pinned (OpenSpec.ofChange fnExactGoodAgainSpec)

/-- ITS FALSE NEIGHBOUR: 'it returns false'. Refute it at one input. -/
def fnExactGoodAgainWrong : ChangeSpec := { name := "fnExactGoodAgain", fn := fun _ => fun
  | [d] => { results := [.lit (.bool false)], args := [d] }
  | _ => none }
def FnExactGoodAgainWrongFalsely : Prop := fnExactGoodAgainRow.holds Try.pinned (OpenSpec.ofChange fnExactGoodAgainWrong)

/-- 'laws.FnExactByRate': WHATEVER THE INPUT: true; the input reads as it did. -/
def fnExactByRateSpec : ChangeSpec := { name := "fnExactByRate", fn := fun _ => fun
  | [d] => { results := [.lit (.bool true)], args := [d] }
  | _ => none }
def fnExactByRateRow : OpenClaim := { program := "ytmcmkobdkkibkax", sum := "95c1f0965d275485b8e9b11b9b89d40c6a9a1cea22fedf5735b844accd79a5b4", func := "loop.example/g00527/laws.FnExactByRate", spec := "fnExactByRate", unfollowed := true, recurses := true, apart := false }
def FnExactByRateSaid : Prop := fnExactByRateRow.holds Try.pinned (OpenSpec.ofChange fnExactByRateSpec)

/-- ITS FALSE NEIGHBOUR: 'it returns false'. Refute it at one input. -/
def fnExactByRateWrong : ChangeSpec := { name := "fnExactByRate", fn := fun _ => fun
  | [d] => { results := [.lit (.bool false)], args := [d] }
  | _ => none }
def FnExactByRateWrongFalsely : Prop := fnExactByRateRow.holds Try.pinned (OpenSpec.ofChange fnExactByRateWrong)

/-- 'laws.FnExactLongestOf': WHATEVER THE INPUT: true; the input reads as it did. -/
def fnExactLongestOfSpec : ChangeSpec := { name := "fnExactLongestOf", fn := fun _ => fun
  | [d1, d2] => { results := [.lit (.bool true)], args := [d1, d2] }
  | _ => none }
def fnExactLongestOfRow : OpenClaim := { program := "ytmcmkobdkkibkax", sum := "95c1f0965d275485b8e9b11b9b89d40c6a9a1cea22fedf5735b844accd79a5b4", func := "loop.example/g00527/laws.FnExactLongestOf", spec := "fnExactLongestOf", unfollowed := true, recurses := true, apart := false }
def FnExactLongestOfSaid : Prop := fnExactLongestOfRow.holds Try.pinned (OpenSpec.ofChange fnExactLongestOfSpec)

/-- ITS FALSE NEIGHBOUR: 'it returns false'. Refute it at one input. -/
def fnExactLongestOfWrong : ChangeSpec := { name := "fnExactLongestOf", fn := fun _ => fun
  | [d1, d2] => { results := [.lit (.bool false)], args := [d1, d2] }
  | _ => none }
def FnExactLongestOfWrongFalsely : Prop := fnExactLongestOfRow.holds Try.pinned (OpenSpec.ofChange fnExactLongestOfWrong)

/-- 'laws.FnExactRunAgain': WHATEVER THE INPUT: true; the input reads as it did. -/
def fnExactRunAgainSpec : ChangeSpec := { name := "fnExactRunAgain", fn := fun _ => fun
  | [d1, d2] => { results := [.lit (.bool true)], args := [d1, d2] }
  | _ => none }
def fnExactRunAgainRow : OpenClaim := { program := "ytmcmkobdkkibkax", sum := "95c1f0965d275485b8e9b11b9b89d40c6a9a1cea22fedf5735b844accd79a5b4", func := "loop.example/g00527/laws.FnExactRunAgain", spec := "fnExactRunAgain", unfollowed := true, recurses := true, apart := false }
def FnExactRunAgainSaid : Prop := fnExactRunAgainRow.holds Try.pinned (OpenSpec.ofChange fnExactRunAgainSpec)

/-- ITS FALSE NEIGHBOUR: 'it returns false'. Refute it at one input. -/
def fnExactRunAgainWrong : ChangeSpec := { name := "fnExactRunAgain", fn := fun _ => fun
  | [d1, d2] => { results := [.lit (.bool false)], args := [d1, d2] }
  | _ => none }
def FnExactRunAgainWrongFalsely : Prop := fnExactRunAgainRow.holds Try.pinned (OpenSpec.ofChange fnExactRunAgainWrong)

/- THE SECOND FORM. 'bulk': how many values and letters a reading holds, each counted each time it is reached (what is shared counts as often as it is met; a slice's spare places count too). A statement '..UptoSaid' is the law's where the arguments, and the package variables that the reading takes, are together of bulk at most 1048576: NARROWER than '..Said'. Prove '..Said' where nothing that the law and all that it calls make is longer than what came in: it says more and counts as full. Else prove '..UptoSaid'. A law counts once. -/
mutual
def uptoBulk {H : Type} : DataW H → Nat
  | .lit (.string bytes) => bytes.length + 1
  | .lit _ => 1
  | .nil => 1
  | .ptr d => uptoBulk d + 1
  | .slice elems spare => uptoBulkAll elems + uptoBulkAll spare + 1
  | .agg parts => uptoBulkAll parts + 1
  | .iface _ d => uptoBulk d + 1
  | .map entries => uptoBulkEntries entries + 1
  | .held _ => 1
def uptoBulkAll {H : Type} : List (DataW H) → Nat
  | [] => 0
  | d :: r => uptoBulk d + uptoBulkAll r
def uptoBulkEntries {H : Type} : List (Lit × DataW H) → Nat
  | [] => 0
  | x :: r => uptoBulkEntry x + uptoBulkEntries r
def uptoBulkEntry {H : Type} : Lit × DataW H → Nat
  | (.string bytes, d) => bytes.length + uptoBulk d + 1
  | (_, d) => uptoBulk d + 1
 end
def uptoSmall : (H : Type) → List (DataW H) → Bool := fun _ ds => decide (uptoBulkAll ds ≤ 1048576)
def OpenSpec.upto (s : _root_.Go.ChangeSpec) : _root_.Go.OpenSpec := { _root_.Go.OpenSpec.ofChange s with cond := some uptoSmall }

/-- 'laws.FnExactBestMany', WHERE WHAT IT READS IS OF BULK AT MOST 1048576: true; the input reads as it did. -/
def fnExactBestManyUptoRow : OpenClaim := { program := "ytmcmkobdkkibkax", sum := "95c1f0965d275485b8e9b11b9b89d40c6a9a1cea22fedf5735b844accd79a5b4", func := "loop.example/g00527/laws.FnExactBestMany", spec := "fnExactBestMany", unfollowed := true, recurses := true, apart := false, narrowed := true }
def FnExactBestManyUptoSaid : Prop := fnExactBestManyUptoRow.holds Try.pinned (OpenSpec.upto fnExactBestManySpec)

/-- 'laws.FnExactCompletionsOf', WHERE WHAT IT READS IS OF BULK AT MOST 1048576: true; the input reads as it did. -/
def fnExactCompletionsOfUptoRow : OpenClaim := { program := "ytmcmkobdkkibkax", sum := "95c1f0965d275485b8e9b11b9b89d40c6a9a1cea22fedf5735b844accd79a5b4", func := "loop.example/g00527/laws.FnExactCompletionsOf", spec := "fnExactCompletionsOf", unfollowed := true, recurses := true, apart := false, narrowed := true }
def FnExactCompletionsOfUptoSaid : Prop := fnExactCompletionsOfUptoRow.holds Try.pinned (OpenSpec.upto fnExactCompletionsOfSpec)

/-- 'laws.FnExactGoodAgain', WHERE WHAT IT READS IS OF BULK AT MOST 1048576: true; the input reads as it did. -/
def fnExactGoodAgainUptoRow : OpenClaim := { program := "ytmcmkobdkkibkax", sum := "95c1f0965d275485b8e9b11b9b89d40c6a9a1cea22fedf5735b844accd79a5b4", func := "loop.example/g00527/laws.FnExactGoodAgain", spec := "fnExactGoodAgain", unfollowed := true, recurses := true, apart := false, narrowed := true }
def FnExactGoodAgainUptoSaid : Prop := fnExactGoodAgainUptoRow.holds Try.pinned (OpenSpec.upto fnExactGoodAgainSpec)

/-- 'laws.FnExactByRate', WHERE WHAT IT READS IS OF BULK AT MOST 1048576: true; the input reads as it did. -/
def fnExactByRateUptoRow : OpenClaim := { program := "ytmcmkobdkkibkax", sum := "95c1f0965d275485b8e9b11b9b89d40c6a9a1cea22fedf5735b844accd79a5b4", func := "loop.example/g00527/laws.FnExactByRate", spec := "fnExactByRate", unfollowed := true, recurses := true, apart := false, narrowed := true }
def FnExactByRateUptoSaid : Prop := fnExactByRateUptoRow.holds Try.pinned (OpenSpec.upto fnExactByRateSpec)

/-- 'laws.FnExactLongestOf', WHERE WHAT IT READS IS OF BULK AT MOST 1048576: true; the input reads as it did. -/
def fnExactLongestOfUptoRow : OpenClaim := { program := "ytmcmkobdkkibkax", sum := "95c1f0965d275485b8e9b11b9b89d40c6a9a1cea22fedf5735b844accd79a5b4", func := "loop.example/g00527/laws.FnExactLongestOf", spec := "fnExactLongestOf", unfollowed := true, recurses := true, apart := false, narrowed := true }
def FnExactLongestOfUptoSaid : Prop := fnExactLongestOfUptoRow.holds Try.pinned (OpenSpec.upto fnExactLongestOfSpec)

/-- 'laws.FnExactRunAgain', WHERE WHAT IT READS IS OF BULK AT MOST 1048576: true; the input reads as it did. -/
def fnExactRunAgainUptoRow : OpenClaim := { program := "ytmcmkobdkkibkax", sum := "95c1f0965d275485b8e9b11b9b89d40c6a9a1cea22fedf5735b844accd79a5b4", func := "loop.example/g00527/laws.FnExactRunAgain", spec := "fnExactRunAgain", unfollowed := true, recurses := true, apart := false, narrowed := true }
def FnExactRunAgainUptoSaid : Prop := fnExactRunAgainUptoRow.holds Try.pinned (OpenSpec.upto fnExactRunAgainSpec)

end Rows
end Go.Proofs.Ytmcmkobdkkibkax
