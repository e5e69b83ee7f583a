/-
  No cell of these rows narrows 'for every input' (looked for: loops, veiled, ifaces, maps, wideKeys, modest, calm, conditions, laid).
  DERIVED. THE GIVEN ROWS OF THIS SEAT. 6 by the template 'for every input the law returns true; each argument reads behind the call as it read before'; 0 by the template 'total and deterministic' (their statements: YtpkngcamaahhdawTotals.lean).
  GIVEN WITH THE SEED: the statements are not yours to turn. If you find one false, say at which input.
  Laid BY PROGRAM, IN A SANDBOX (cutbox-rows.mjs): the forced cells as the released guide's own fill.sh prints them over the translation dac1e5c9125729ac… (all of the seat's roots in one cut). By AI agents, Wed Nov 11 2026. No macro, syntax, notation, axiom, sorry.
-/
import Derived.Test.YtpkngcamaahhdawChecked
import GoSem.Claim
import GoSem.ClaimJoined
import GoSem.ClaimMapViews
import Derived.JoinedTies
import Derived.KernelRfl
namespace Go.Proofs.Ytpkngcamaahhdaw
/- THE CELL 'sum', in the pinned program and in every row, IS THE sha256 OF THE DUMP (.gsa) THAT YtpkngcamaahhdawProg.lean LOADS. Nothing in Lean hashes anything: it is a label: what it is worth is what the hold of that sum in a sandbox is worth. -/
noncomputable def Try.pinned : Pinned := { name := "ytpkngcamaahhdaw", sum := "dac1e5c9125729ac85d94e898402b69bcb44bdcee9ad8daf43c11eea1863981c", checked := Try.checked }
namespace Rows
def none {H : Type} : Left H := { results := [], args := [] }

/-- 'laws.FnExactAdmitJob': WHATEVER THE INPUT: true; the input reads as it did. -/
def fnExactAdmitJobSpec : ChangeSpec := { name := "fnExactAdmitJob", fn := fun _ => fun
  | [d1, d2] => { results := [.lit (.bool true)], args := [d1, d2] }
  | _ => none }
def fnExactAdmitJobRow : OpenClaim := { program := "ytpkngcamaahhdaw", sum := "dac1e5c9125729ac85d94e898402b69bcb44bdcee9ad8daf43c11eea1863981c", func := "loop.example/g00527/laws.FnExactAdmitJob", spec := "fnExactAdmitJob", unfollowed := true, recurses := true, apart := false }
def FnExactAdmitJobSaid : Prop := fnExactAdmitJobRow.holds Try.pinned (OpenSpec.ofChange fnExactAdmitJobSpec)

/-- ITS FALSE NEIGHBOUR: 'it returns false'. Refute it at one input. -/
def fnExactAdmitJobWrong : ChangeSpec := { name := "fnExactAdmitJob", fn := fun _ => fun
  | [d1, d2] => { results := [.lit (.bool false)], args := [d1, d2] }
  | _ => none }
def FnExactAdmitJobWrongFalsely : Prop := fnExactAdmitJobRow.holds Try.pinned (OpenSpec.ofChange fnExactAdmitJobWrong)

/-- 'laws.FnExactGoodTasks': WHATEVER THE INPUT: true; the input reads as it did. -/
def fnExactGoodTasksSpec : ChangeSpec := { name := "fnExactGoodTasks", fn := fun _ => fun
  | [d] => { results := [.lit (.bool true)], args := [d] }
  | _ => none }
def fnExactGoodTasksRow : OpenClaim := { program := "ytpkngcamaahhdaw", sum := "dac1e5c9125729ac85d94e898402b69bcb44bdcee9ad8daf43c11eea1863981c", func := "loop.example/g00527/laws.FnExactGoodTasks", spec := "fnExactGoodTasks", unfollowed := true, recurses := true, apart := false }
def FnExactGoodTasksSaid : Prop := fnExactGoodTasksRow.holds Try.pinned (OpenSpec.ofChange fnExactGoodTasksSpec)

/-- ITS FALSE NEIGHBOUR: 'it returns false'. Refute it at one input. -/
def fnExactGoodTasksWrong : ChangeSpec := { name := "fnExactGoodTasks", fn := fun _ => fun
  | [d] => { results := [.lit (.bool false)], args := [d] }
  | _ => none }
def FnExactGoodTasksWrongFalsely : Prop := fnExactGoodTasksRow.holds Try.pinned (OpenSpec.ofChange fnExactGoodTasksWrong)

/-- 'laws.FnExactByEnd': WHATEVER THE INPUT: true; the input reads as it did. -/
def fnExactByEndSpec : ChangeSpec := { name := "fnExactByEnd", fn := fun _ => fun
  | [d] => { results := [.lit (.bool true)], args := [d] }
  | _ => none }
def fnExactByEndRow : OpenClaim := { program := "ytpkngcamaahhdaw", sum := "dac1e5c9125729ac85d94e898402b69bcb44bdcee9ad8daf43c11eea1863981c", func := "loop.example/g00527/laws.FnExactByEnd", spec := "fnExactByEnd", unfollowed := true, recurses := true, apart := false }
def FnExactByEndSaid : Prop := fnExactByEndRow.holds Try.pinned (OpenSpec.ofChange fnExactByEndSpec)

/-- ITS FALSE NEIGHBOUR: 'it returns false'. Refute it at one input. -/
def fnExactByEndWrong : ChangeSpec := { name := "fnExactByEnd", fn := fun _ => fun
  | [d] => { results := [.lit (.bool false)], args := [d] }
  | _ => none }
def FnExactByEndWrongFalsely : Prop := fnExactByEndRow.holds Try.pinned (OpenSpec.ofChange fnExactByEndWrong)

/-- 'laws.FnExactLatenessOf': WHATEVER THE INPUT: true; the input reads as it did. -/
def fnExactLatenessOfSpec : ChangeSpec := { name := "fnExactLatenessOf", fn := fun _ => fun
  | [d1, d2] => { results := [.lit (.bool true)], args := [d1, d2] }
  | _ => none }
def fnExactLatenessOfRow : OpenClaim := { program := "ytpkngcamaahhdaw", sum := "dac1e5c9125729ac85d94e898402b69bcb44bdcee9ad8daf43c11eea1863981c", func := "loop.example/g00527/laws.FnExactLatenessOf", spec := "fnExactLatenessOf", unfollowed := true, recurses := true, apart := false }
def FnExactLatenessOfSaid : Prop := fnExactLatenessOfRow.holds Try.pinned (OpenSpec.ofChange fnExactLatenessOfSpec)

/-- ITS FALSE NEIGHBOUR: 'it returns false'. Refute it at one input. -/
def fnExactLatenessOfWrong : ChangeSpec := { name := "fnExactLatenessOf", fn := fun _ => fun
  | [d1, d2] => { results := [.lit (.bool false)], args := [d1, d2] }
  | _ => none }
def FnExactLatenessOfWrongFalsely : Prop := fnExactLatenessOfRow.holds Try.pinned (OpenSpec.ofChange fnExactLatenessOfWrong)

/-- 'laws.FnExactLateMany': WHATEVER THE INPUT: true; the input reads as it did. -/
def fnExactLateManySpec : ChangeSpec := { name := "fnExactLateMany", fn := fun _ => fun
  | [d1, d2] => { results := [.lit (.bool true)], args := [d1, d2] }
  | _ => none }
def fnExactLateManyRow : OpenClaim := { program := "ytpkngcamaahhdaw", sum := "dac1e5c9125729ac85d94e898402b69bcb44bdcee9ad8daf43c11eea1863981c", func := "loop.example/g00527/laws.FnExactLateMany", spec := "fnExactLateMany", unfollowed := true, recurses := true, apart := false }
def FnExactLateManySaid : Prop := fnExactLateManyRow.holds Try.pinned (OpenSpec.ofChange fnExactLateManySpec)

/-- ITS FALSE NEIGHBOUR: 'it returns false'. Refute it at one input. -/
def fnExactLateManyWrong : ChangeSpec := { name := "fnExactLateMany", fn := fun _ => fun
  | [d1, d2] => { results := [.lit (.bool false)], args := [d1, d2] }
  | _ => none }
def FnExactLateManyWrongFalsely : Prop := fnExactLateManyRow.holds Try.pinned (OpenSpec.ofChange fnExactLateManyWrong)

/-- 'laws.FnExactMooreOrder': WHATEVER THE INPUT: true; the input reads as it did. -/
def fnExactMooreOrderSpec : ChangeSpec := { name := "fnExactMooreOrder", fn := fun _ => fun
  | [d] => { results := [.lit (.bool true)], args := [d] }
  | _ => none }
def fnExactMooreOrderRow : OpenClaim := { program := "ytpkngcamaahhdaw", sum := "dac1e5c9125729ac85d94e898402b69bcb44bdcee9ad8daf43c11eea1863981c", func := "loop.example/g00527/laws.FnExactMooreOrder", spec := "fnExactMooreOrder", unfollowed := true, recurses := true, apart := false }
def FnExactMooreOrderSaid : Prop := fnExactMooreOrderRow.holds Try.pinned (OpenSpec.ofChange fnExactMooreOrderSpec)

/-- ITS FALSE NEIGHBOUR: 'it returns false'. Refute it at one input. -/
def fnExactMooreOrderWrong : ChangeSpec := { name := "fnExactMooreOrder", fn := fun _ => fun
  | [d] => { results := [.lit (.bool false)], args := [d] }
  | _ => none }
def FnExactMooreOrderWrongFalsely : Prop := fnExactMooreOrderRow.holds Try.pinned (OpenSpec.ofChange fnExactMooreOrderWrong)

/- THE SECOND FORM. 'bulk': how many values and letters a reading holds, each counted each time it is reached (what is shared counts as often as it is met; a slice's spare places count too). A statement '..UptoSaid' is the law's where the arguments, and the package variables that the reading takes, are together of bulk at most 1048576: NARROWER than '..Said'. Prove '..Said' where nothing that the law and all that it calls make is longer than what came in: it says more and counts as full. Else prove '..UptoSaid'. A law counts once. -/
mutual
def uptoBulk {H : Type} : DataW H → Nat
  | .lit (.string bytes) => bytes.length + 1
  | .lit _ => 1
  | .nil => 1
  | .ptr d => uptoBulk d + 1
  | .slice elems spare => uptoBulkAll elems + uptoBulkAll spare + 1
  | .agg parts => uptoBulkAll parts + 1
  | .iface _ d => uptoBulk d + 1
  | .map entries => uptoBulkEntries entries + 1
  | .held _ => 1
def uptoBulkAll {H : Type} : List (DataW H) → Nat
  | [] => 0
  | d :: r => uptoBulk d + uptoBulkAll r
def uptoBulkEntries {H : Type} : List (Lit × DataW H) → Nat
  | [] => 0
  | x :: r => uptoBulkEntry x + uptoBulkEntries r
def uptoBulkEntry {H : Type} : Lit × DataW H → Nat
  | (.string bytes, d) => bytes.length + uptoBulk d + 1
  | (_, d) => uptoBulk d + 1
 end
def uptoSmall : (H : Type) → List (DataW H) → Bool := fun _ ds => decide (uptoBulkAll ds ≤ 1048576)
def OpenSpec.upto (s : _root_.Go.ChangeSpec) : _root_.Go.OpenSpec := { _root_.Go.OpenSpec.ofChange s with cond := some uptoSmall }

/-- 'laws.FnExactAdmitJob', WHERE WHAT IT READS IS OF BULK AT MOST 1048576: true; the input reads as it did. -/
def fnExactAdmitJobUptoRow : OpenClaim := { program := "ytpkngcamaahhdaw", sum := "dac1e5c9125729ac85d94e898402b69bcb44bdcee9ad8daf43c11eea1863981c", func := "loop.example/g00527/laws.FnExactAdmitJob", spec := "fnExactAdmitJob", unfollowed := true, recurses := true, apart := false, narrowed := true }
def FnExactAdmitJobUptoSaid : Prop := fnExactAdmitJobUptoRow.holds Try.pinned (OpenSpec.upto fnExactAdmitJobSpec)

/-- 'laws.FnExactGoodTasks', WHERE WHAT IT READS IS OF BULK AT MOST 1048576: true; the input reads as it did. -/
def fnExactGoodTasksUptoRow : OpenClaim := { program := "ytpkngcamaahhdaw", sum := "dac1e5c9125729ac85d94e898402b69bcb44bdcee9ad8daf43c11eea1863981c", func := "loop.example/g00527/laws.FnExactGoodTasks", spec := "fnExactGoodTasks", unfollowed := true, recurses := true, apart := false, narrowed := true }
def FnExactGoodTasksUptoSaid : Prop := fnExactGoodTasksUptoRow.holds Try.pinned (OpenSpec.upto fnExactGoodTasksSpec)

/-- 'laws.FnExactByEnd', WHERE WHAT IT READS IS OF BULK AT MOST 1048576: true; the input reads as it did. -/
def fnExactByEndUptoRow : OpenClaim := { program := "ytpkngcamaahhdaw", sum := "dac1e5c9125729ac85d94e898402b69bcb44bdcee9ad8daf43c11eea1863981c", func := "loop.example/g00527/laws.FnExactByEnd", spec := "fnExactByEnd", unfollowed := true, recurses := true, apart := false, narrowed := true }
def FnExactByEndUptoSaid : Prop := fnExactByEndUptoRow.holds Try.pinned (OpenSpec.upto fnExactByEndSpec)

/-- 'laws.FnExactLatenessOf', WHERE WHAT IT READS IS OF BULK AT MOST 1048576: true; the input reads as it did. -/
def fnExactLatenessOfUptoRow : OpenClaim := { program := "ytpkngcamaahhdaw", sum := "dac1e5c9125729ac85d94e898402b69bcb44bdcee9ad8daf43c11eea1863981c", func := "loop.example/g00527/laws.FnExactLatenessOf", spec := "fnExactLatenessOf", unfollowed := true, recurses := true, apart := false, narrowed := true }
def FnExactLatenessOfUptoSaid : Prop := fnExactLatenessOfUptoRow.holds Try.pinned (OpenSpec.upto fnExactLatenessOfSpec)

/-- 'laws.FnExactLateMany', WHERE WHAT IT READS IS OF BULK AT MOST 1048576: true; the input reads as it did. -/
def fnExactLateManyUptoRow : OpenClaim := { program := "ytpkngcamaahhdaw", sum := "dac1e5c9125729ac85d94e898402b69bcb44bdcee9ad8daf43c11eea1863981c", func := "loop.example/g00527/laws.FnExactLateMany", spec := "fnExactLateMany", unfollowed := true, recurses := true, apart := false, narrowed := true }
def FnExactLateManyUptoSaid : Prop := fnExactLateManyUptoRow.holds Try.pinned (OpenSpec.upto fnExactLateManySpec)

/-- 'laws.FnExactMooreOrder', WHERE WHAT IT READS IS OF BULK AT MOST 1048576: true; the input reads as it did. -/
def fnExactMooreOrderUptoRow : OpenClaim := { program := "ytpkngcamaahhdaw", sum := "dac1e5c9125729ac85d94e898402b69bcb44bdcee9ad8daf43c11eea1863981c", func := "loop.example/g00527/laws.FnExactMooreOrder", spec := "fnExactMooreOrder", unfollowed := true, recurses := true, apart := false, narrowed := true }
def FnExactMooreOrderUptoSaid : Prop := fnExactMooreOrderUptoRow.holds Try.pinned (OpenSpec.upto fnExactMooreOrderSpec)

end Rows
end Go.Proofs.Ytpkngcamaahhdaw
