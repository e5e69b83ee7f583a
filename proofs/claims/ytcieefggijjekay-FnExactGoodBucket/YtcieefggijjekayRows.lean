/-
  No cell of these rows narrows 'for every input' (looked for: loops, veiled, ifaces, maps, wideKeys, modest, calm, conditions, laid).
  DERIVED. THE GIVEN ROWS OF THIS SEAT. 6 by the template 'for every input the law returns true; each argument reads behind the call as it read before'; 0 by the template 'total and deterministic' (their statements: YtcieefggijjekayTotals.lean).
  GIVEN WITH THE SEED: the statements are not yours to turn. If you find one false, say at which input.
  Laid BY PROGRAM, IN A SANDBOX (cutbox-rows.mjs): the forced cells as the released guide's own fill.sh prints them over the translation 07f3f44e6c367185… (all of the seat's roots in one cut). By AI agents, Wed Nov 11 2026. No macro, syntax, notation, axiom, sorry.
-/
import Derived.Test.YtcieefggijjekayChecked
import GoSem.Claim
import GoSem.ClaimJoined
import GoSem.ClaimMapViews
import Derived.JoinedTies
import Derived.KernelRfl
namespace Go.Proofs.Ytcieefggijjekay
/- THE CELL 'sum', in the pinned program and in every row, IS THE sha256 OF THE DUMP (.gsa) THAT YtcieefggijjekayProg.lean LOADS. Nothing in Lean hashes anything: it is a label: what it is worth is what the hold of that sum in a sandbox is worth. -/
noncomputable def Try.pinned : Pinned := { name := "ytcieefggijjekay", sum := "07f3f44e6c3671853a151cb36042cd8affd6feeb28e26ee0ebde3d31c50aed30", checked := Try.checked }
namespace Rows
def none {H : Type} : Left H := { results := [], args := [] }

/-- 'laws.FnExactFirstDone': WHATEVER THE INPUT: true; the input reads as it did. -/
def fnExactFirstDoneSpec : ChangeSpec := { name := "fnExactFirstDone", fn := fun _ => fun
  | [d1, d2] => { results := [.lit (.bool true)], args := [d1, d2] }
  | _ => none }
def fnExactFirstDoneRow : OpenClaim := { program := "ytcieefggijjekay", sum := "07f3f44e6c3671853a151cb36042cd8affd6feeb28e26ee0ebde3d31c50aed30", func := "loop.example/g00527/laws.FnExactFirstDone", spec := "fnExactFirstDone", unfollowed := true, recurses := true, apart := false }
def FnExactFirstDoneSaid : Prop := fnExactFirstDoneRow.holds Try.pinned (OpenSpec.ofChange fnExactFirstDoneSpec)

/-- ITS FALSE NEIGHBOUR: 'it returns false'. Refute it at one input. -/
def fnExactFirstDoneWrong : ChangeSpec := { name := "fnExactFirstDone", fn := fun _ => fun
  | [d1, d2] => { results := [.lit (.bool false)], args := [d1, d2] }
  | _ => none }
def FnExactFirstDoneWrongFalsely : Prop := fnExactFirstDoneRow.holds Try.pinned (OpenSpec.ofChange fnExactFirstDoneWrong)

/-- 'laws.FnExactLoadOf': WHATEVER THE INPUT: true; the input reads as it did. -/
def fnExactLoadOfSpec : ChangeSpec := { name := "fnExactLoadOf", fn := fun _ => fun
  | [d] => { results := [.lit (.bool true)], args := [d] }
  | _ => none }
def fnExactLoadOfRow : OpenClaim := { program := "ytcieefggijjekay", sum := "07f3f44e6c3671853a151cb36042cd8affd6feeb28e26ee0ebde3d31c50aed30", func := "loop.example/g00527/laws.FnExactLoadOf", spec := "fnExactLoadOf", unfollowed := true, recurses := true, apart := false }
def FnExactLoadOfSaid : Prop := fnExactLoadOfRow.holds Try.pinned (OpenSpec.ofChange fnExactLoadOfSpec)

/-- ITS FALSE NEIGHBOUR: 'it returns false'. Refute it at one input. -/
def fnExactLoadOfWrong : ChangeSpec := { name := "fnExactLoadOf", fn := fun _ => fun
  | [d] => { results := [.lit (.bool false)], args := [d] }
  | _ => none }
def FnExactLoadOfWrongFalsely : Prop := fnExactLoadOfRow.holds Try.pinned (OpenSpec.ofChange fnExactLoadOfWrong)

/-- 'laws.FnExactAllInTime': WHATEVER THE INPUT: true; the input reads as it did. -/
def fnExactAllInTimeSpec : ChangeSpec := { name := "fnExactAllInTime", fn := fun _ => fun
  | [d] => { results := [.lit (.bool true)], args := [d] }
  | _ => none }
def fnExactAllInTimeRow : OpenClaim := { program := "ytcieefggijjekay", sum := "07f3f44e6c3671853a151cb36042cd8affd6feeb28e26ee0ebde3d31c50aed30", func := "loop.example/g00527/laws.FnExactAllInTime", spec := "fnExactAllInTime", unfollowed := true, recurses := true, apart := false }
def FnExactAllInTimeSaid : Prop := fnExactAllInTimeRow.holds Try.pinned (OpenSpec.ofChange fnExactAllInTimeSpec)

/-- ITS FALSE NEIGHBOUR: 'it returns false'. Refute it at one input. -/
def fnExactAllInTimeWrong : ChangeSpec := { name := "fnExactAllInTime", fn := fun _ => fun
  | [d] => { results := [.lit (.bool false)], args := [d] }
  | _ => none }
def FnExactAllInTimeWrongFalsely : Prop := fnExactAllInTimeRow.holds Try.pinned (OpenSpec.ofChange fnExactAllInTimeWrong)

/-- 'laws.FnExactNewBucket': WHATEVER THE INPUT: true; the input reads as it did. -/
def fnExactNewBucketSpec : ChangeSpec := { name := "fnExactNewBucket", fn := fun _ => fun
  | [d1, d2] => { results := [.lit (.bool true)], args := [d1, d2] }
  | _ => none }
def fnExactNewBucketRow : OpenClaim := { program := "ytcieefggijjekay", sum := "07f3f44e6c3671853a151cb36042cd8affd6feeb28e26ee0ebde3d31c50aed30", func := "loop.example/g00527/laws.FnExactNewBucket", spec := "fnExactNewBucket", apart := false }
def FnExactNewBucketSaid : Prop := fnExactNewBucketRow.holds Try.pinned (OpenSpec.ofChange fnExactNewBucketSpec)

/-- ITS FALSE NEIGHBOUR: 'it returns false'. Refute it at one input. -/
def fnExactNewBucketWrong : ChangeSpec := { name := "fnExactNewBucket", fn := fun _ => fun
  | [d1, d2] => { results := [.lit (.bool false)], args := [d1, d2] }
  | _ => none }
def FnExactNewBucketWrongFalsely : Prop := fnExactNewBucketRow.holds Try.pinned (OpenSpec.ofChange fnExactNewBucketWrong)

/-- 'laws.FnExactGoodBucket': WHATEVER THE INPUT: true; the input reads as it did. -/
def fnExactGoodBucketSpec : ChangeSpec := { name := "fnExactGoodBucket", fn := fun _ => fun
  | [d] => { results := [.lit (.bool true)], args := [d] }
  | _ => none }
def fnExactGoodBucketRow : OpenClaim := { program := "ytcieefggijjekay", sum := "07f3f44e6c3671853a151cb36042cd8affd6feeb28e26ee0ebde3d31c50aed30", func := "loop.example/g00527/laws.FnExactGoodBucket", spec := "fnExactGoodBucket", apart := false }
def FnExactGoodBucketSaid : Prop := fnExactGoodBucketRow.holds Try.pinned (OpenSpec.ofChange fnExactGoodBucketSpec)

/-- ITS FALSE NEIGHBOUR: 'it returns false'. Refute it at one input. -/
def fnExactGoodBucketWrong : ChangeSpec := { name := "fnExactGoodBucket", fn := fun _ => fun
  | [d] => { results := [.lit (.bool false)], args := [d] }
  | _ => none }
def FnExactGoodBucketWrongFalsely : Prop := fnExactGoodBucketRow.holds Try.pinned (OpenSpec.ofChange fnExactGoodBucketWrong)

/-- 'laws.FnExactTickBucket': WHATEVER THE INPUT: true; the input reads as it did. -/
def fnExactTickBucketSpec : ChangeSpec := { name := "fnExactTickBucket", fn := fun _ => fun
  | [d] => { results := [.lit (.bool true)], args := [d] }
  | _ => none }
def fnExactTickBucketRow : OpenClaim := { program := "ytcieefggijjekay", sum := "07f3f44e6c3671853a151cb36042cd8affd6feeb28e26ee0ebde3d31c50aed30", func := "loop.example/g00527/laws.FnExactTickBucket", spec := "fnExactTickBucket", apart := false }
def FnExactTickBucketSaid : Prop := fnExactTickBucketRow.holds Try.pinned (OpenSpec.ofChange fnExactTickBucketSpec)

/-- ITS FALSE NEIGHBOUR: 'it returns false'. Refute it at one input. -/
def fnExactTickBucketWrong : ChangeSpec := { name := "fnExactTickBucket", fn := fun _ => fun
  | [d] => { results := [.lit (.bool false)], args := [d] }
  | _ => none }
def FnExactTickBucketWrongFalsely : Prop := fnExactTickBucketRow.holds Try.pinned (OpenSpec.ofChange fnExactTickBucketWrong)

/- THE SECOND FORM. 'bulk': how many values and letters a reading holds, each counted each time it is reached (what is shared counts as often as it is met; a slice's spare places count too). A statement '..UptoSaid' is the law's where the arguments, and the package variables that the reading takes, are together of bulk at most 1048576: NARROWER than '..Said'. Prove '..Said' where nothing that the law and all that it calls make is longer than what came in: it says more and counts as full. Else prove '..UptoSaid'. A law counts once. -/
mutual
def uptoBulk {H : Type} : DataW H → Nat
  | .lit (.string bytes) => bytes.length + 1
  | .lit _ => 1
  | .nil => 1
  | .ptr d => uptoBulk d + 1
  | .slice elems spare => uptoBulkAll elems + uptoBulkAll spare + 1
  | .agg parts => uptoBulkAll parts + 1
  | .iface _ d => uptoBulk d + 1
  | .map entries => uptoBulkEntries entries + 1
  | .held _ => 1
def uptoBulkAll {H : Type} : List (DataW H) → Nat
  | [] => 0
  | d :: r => uptoBulk d + uptoBulkAll r
def uptoBulkEntries {H : Type} : List (Lit × DataW H) → Nat
  | [] => 0
  | x :: r => uptoBulkEntry x + uptoBulkEntries r
def uptoBulkEntry {H : Type} : Lit × DataW H → Nat
  | (.string bytes, d) => bytes.length + uptoBulk d + 1
  | (_, d) => uptoBulk d + 1
 end
def uptoSmall : (H : Type) → List (DataW H) → Bool := fun _ ds => decide (uptoBulkAll ds ≤ 1048576)
def OpenSpec.upto (s : _root_.Go.ChangeSpec) : _root_.Go.OpenSpec := { _root_.Go.OpenSpec.ofChange s with cond := some uptoSmall }

/-- 'laws.FnExactFirstDone', WHERE WHAT IT READS IS OF BULK AT MOST 1048576: true; the input reads as it did. -/
def fnExactFirstDoneUptoRow : OpenClaim := { program := "ytcieefggijjekay", sum := "07f3f44e6c3671853a151cb36042cd8affd6feeb28e26ee0ebde3d31c50aed30", func := "loop.example/g00527/laws.FnExactFirstDone", spec := "fnExactFirstDone", unfollowed := true, recurses := true, apart := false, narrowed := true }
def FnExactFirstDoneUptoSaid : Prop := fnExactFirstDoneUptoRow.holds Try.pinned (OpenSpec.upto fnExactFirstDoneSpec)

/-- 'laws.FnExactLoadOf', WHERE WHAT IT READS IS OF BULK AT MOST 1048576: true; the input reads as it did. -/
def fnExactLoadOfUptoRow : OpenClaim := { program := "ytcieefggijjekay", sum := "07f3f44e6c3671853a151cb36042cd8affd6feeb28e26ee0ebde3d31c50aed30", func := "loop.example/g00527/laws.FnExactLoadOf", spec := "fnExactLoadOf", unfollowed := true, recurses := true, apart := false, narrowed := true }
def FnExactLoadOfUptoSaid : Prop := fnExactLoadOfUptoRow.holds Try.pinned (OpenSpec.upto fnExactLoadOfSpec)

/-- 'laws.FnExactAllInTime', WHERE WHAT IT READS IS OF BULK AT MOST 1048576: true; the input reads as it did. -/
def fnExactAllInTimeUptoRow : OpenClaim := { program := "ytcieefggijjekay", sum := "07f3f44e6c3671853a151cb36042cd8affd6feeb28e26ee0ebde3d31c50aed30", func := "loop.example/g00527/laws.FnExactAllInTime", spec := "fnExactAllInTime", unfollowed := true, recurses := true, apart := false, narrowed := true }
def FnExactAllInTimeUptoSaid : Prop := fnExactAllInTimeUptoRow.holds Try.pinned (OpenSpec.upto fnExactAllInTimeSpec)

/-- 'laws.FnExactNewBucket', WHERE WHAT IT READS IS OF BULK AT MOST 1048576: true; the input reads as it did. -/
def fnExactNewBucketUptoRow : OpenClaim := { program := "ytcieefggijjekay", sum := "07f3f44e6c3671853a151cb36042cd8affd6feeb28e26ee0ebde3d31c50aed30", func := "loop.example/g00527/laws.FnExactNewBucket", spec := "fnExactNewBucket", apart := false, narrowed := true }
def FnExactNewBucketUptoSaid : Prop := fnExactNewBucketUptoRow.holds Try.pinned (OpenSpec.upto fnExactNewBucketSpec)

/-- 'laws.FnExactGoodBucket', WHERE WHAT IT READS IS OF BULK AT MOST 1048576: true; the input reads as it did. -/
def fnExactGoodBucketUptoRow : OpenClaim := { program := "ytcieefggijjekay", sum := "07f3f44e6c3671853a151cb36042cd8affd6feeb28e26ee0ebde3d31c50aed30", func := "loop.example/g00527/laws.FnExactGoodBucket", spec := "fnExactGoodBucket", apart := false, narrowed := true }
def FnExactGoodBucketUptoSaid : Prop := fnExactGoodBucketUptoRow.holds Try.pinned (OpenSpec.upto fnExactGoodBucketSpec)

/-- 'laws.FnExactTickBucket', WHERE WHAT IT READS IS OF BULK AT MOST 1048576: true; the input reads as it did. -/
def fnExactTickBucketUptoRow : OpenClaim := { program := "ytcieefggijjekay", sum := "07f3f44e6c3671853a151cb36042cd8affd6feeb28e26ee0ebde3d31c50aed30", func := "loop.example/g00527/laws.FnExactTickBucket", spec := "fnExactTickBucket", apart := false, narrowed := true }
def FnExactTickBucketUptoSaid : Prop := fnExactTickBucketUptoRow.holds Try.pinned (OpenSpec.upto fnExactTickBucketSpec)

end Rows
end Go.Proofs.Ytcieefggijjekay
