/-
  NARROWER THAN 'FOR EVERY INPUT', by the rows' own cells (each row's printed sentence says how): FnExactSizeOf: laid · FnExactPutNumber: laid.
  DERIVED. THE GIVEN ROWS OF THIS SEAT. 2 by the template 'for every input the law returns true; each argument reads behind the call as it read before'; 0 by the template 'total and deterministic' (their statements: YthpimklbdabdhaqDoorTotals.lean).
  GIVEN WITH THE SEED: the statements are not yours to turn. If you find one false, say at which input.
  Laid BY PROGRAM, IN A SANDBOX (cutbox-rows.mjs): the forced cells as the released guide's own fill.sh prints them over the translation 5e0e428b2cee3268… (all of the seat's roots in one cut). By AI agents, Wed Nov 11 2026. No macro, syntax, notation, axiom, sorry.
-/
import Derived.Test.YthpimklbdabdhaqDoorChecked
import GoSem.Claim
import GoSem.ClaimJoined
import GoSem.ClaimMapViews
import Derived.JoinedTies
import Derived.KernelRfl
namespace Go.Proofs.YthpimklbdabdhaqDoor
/- THE CELL 'sum', in the pinned program and in every row, IS THE sha256 OF THE DUMP (.gsa) THAT YthpimklbdabdhaqDoorProg.lean LOADS. Nothing in Lean hashes anything: it is a label: what it is worth is what the hold of that sum in a sandbox is worth. -/
noncomputable def Tryd.pinned : Pinned := { name := "ythpimklbdabdhaqdoor", sum := "5e0e428b2cee32685b253bccc36bbb9e5575dd758e6e11157c5c50789ef7859c", checked := Tryd.checked }
namespace Rows
def none {H : Type} : Left H := { results := [], args := [] }

/- WHAT THE LISTED PACKAGE-LEVEL VARIABLES READ AS WHEN THE CALL BEGINS. Each datum BY PROGRAM (the guide's laid-datum.mjs) off the statement by which the dump's own 'gosem.cut.vars' lays the variable. In a bare row this is a premise. The card (YthpimklbdabdhaqDoorCards.lean) ties it to the program's text. -/
def laid_loop_example_g00527_impl_sizeRows {H : Type} : DataW H := .agg [.agg [.lit (.int .i64 1), .lit (.int .i64 64)], .agg [.lit (.int .i64 2), .lit (.int .i64 16384)], .agg [.lit (.int .i64 4), .lit (.int .i64 1073741824)], .agg [.lit (.int .i64 8), .lit (.int .i64 1152921504606846976)]]

/-- 'laws.FnExactSizeOf': WHATEVER THE INPUT: true; the input reads as it did. -/
def fnExactSizeOfSpec : ChangeSpec := { name := "fnExactSizeOf", vars := ["loop.example/g00527/impl.sizeRows"], fn := fun _ => fun
  | [d, g1] => { results := [.lit (.bool true)], args := [d], vars := [g1] }
  | _ => none }
def fnExactSizeOfRow : OpenClaim := { program := "ythpimklbdabdhaqdoor", sum := "5e0e428b2cee32685b253bccc36bbb9e5575dd758e6e11157c5c50789ef7859c", func := "loop.example/g00527/laws.FnExactSizeOf", spec := "fnExactSizeOf", named := ["loop.example/g00527/impl.sizeRows"], apart := false, laid := [("loop.example/g00527/impl.sizeRows", laid_loop_example_g00527_impl_sizeRows)] }
def FnExactSizeOfSaid : Prop := fnExactSizeOfRow.holds Tryd.pinned (OpenSpec.ofChange fnExactSizeOfSpec)

/-- ITS FALSE NEIGHBOUR: 'it returns false'. Refute it at one input. -/
def fnExactSizeOfWrong : ChangeSpec := { name := "fnExactSizeOf", vars := ["loop.example/g00527/impl.sizeRows"], fn := fun _ => fun
  | [d, g1] => { results := [.lit (.bool false)], args := [d], vars := [g1] }
  | _ => none }
def FnExactSizeOfWrongFalsely : Prop := fnExactSizeOfRow.holds Tryd.pinned (OpenSpec.ofChange fnExactSizeOfWrong)

/-- 'laws.FnExactPutNumber': WHATEVER THE INPUT: true; the input reads as it did. -/
def fnExactPutNumberSpec : ChangeSpec := { name := "fnExactPutNumber", vars := ["loop.example/g00527/impl.sizeRows"], fn := fun _ => fun
  | [d, g1] => { results := [.lit (.bool true)], args := [d], vars := [g1] }
  | _ => none }
def fnExactPutNumberRow : OpenClaim := { program := "ythpimklbdabdhaqdoor", sum := "5e0e428b2cee32685b253bccc36bbb9e5575dd758e6e11157c5c50789ef7859c", func := "loop.example/g00527/laws.FnExactPutNumber", spec := "fnExactPutNumber", named := ["loop.example/g00527/impl.sizeRows"], apart := false, laid := [("loop.example/g00527/impl.sizeRows", laid_loop_example_g00527_impl_sizeRows)] }
def FnExactPutNumberSaid : Prop := fnExactPutNumberRow.holds Tryd.pinned (OpenSpec.ofChange fnExactPutNumberSpec)

/-- ITS FALSE NEIGHBOUR: 'it returns false'. Refute it at one input. -/
def fnExactPutNumberWrong : ChangeSpec := { name := "fnExactPutNumber", vars := ["loop.example/g00527/impl.sizeRows"], fn := fun _ => fun
  | [d, g1] => { results := [.lit (.bool false)], args := [d], vars := [g1] }
  | _ => none }
def FnExactPutNumberWrongFalsely : Prop := fnExactPutNumberRow.holds Tryd.pinned (OpenSpec.ofChange fnExactPutNumberWrong)

/- THE SECOND FORM. 'bulk': how many values and letters a reading holds, each counted each time it is reached (what is shared counts as often as it is met; a slice's spare places count too). A statement '..UptoSaid' is the law's where the arguments, and the package variables that the reading takes, are together of bulk at most 1048576: NARROWER than '..Said'. Prove '..Said' where nothing that the law and all that it calls make is longer than what came in: it says more and counts as full. Else prove '..UptoSaid'. A law counts once. -/
mutual
def uptoBulk {H : Type} : DataW H → Nat
  | .lit (.string bytes) => bytes.length + 1
  | .lit _ => 1
  | .nil => 1
  | .ptr d => uptoBulk d + 1
  | .slice elems spare => uptoBulkAll elems + uptoBulkAll spare + 1
  | .agg parts => uptoBulkAll parts + 1
  | .iface _ d => uptoBulk d + 1
  | .map entries => uptoBulkEntries entries + 1
  | .held _ => 1
def uptoBulkAll {H : Type} : List (DataW H) → Nat
  | [] => 0
  | d :: r => uptoBulk d + uptoBulkAll r
def uptoBulkEntries {H : Type} : List (Lit × DataW H) → Nat
  | [] => 0
  | x :: r => uptoBulkEntry x + uptoBulkEntries r
def uptoBulkEntry {H : Type} : Lit × DataW H → Nat
  | (.string bytes, d) => bytes.length + uptoBulk d + 1
  | (_, d) => uptoBulk d + 1
 end
def uptoSmall : (H : Type) → List (DataW H) → Bool := fun _ ds => decide (uptoBulkAll ds ≤ 1048576)
def OpenSpec.upto (s : _root_.Go.ChangeSpec) : _root_.Go.OpenSpec := { _root_.Go.OpenSpec.ofChange s with cond := some uptoSmall }

/-- 'laws.FnExactSizeOf', WHERE WHAT IT READS IS OF BULK AT MOST 1048576: true; the input reads as it did. -/
def fnExactSizeOfUptoRow : OpenClaim := { program := "ythpimklbdabdhaqdoor", sum := "5e0e428b2cee32685b253bccc36bbb9e5575dd758e6e11157c5c50789ef7859c", func := "loop.example/g00527/laws.FnExactSizeOf", spec := "fnExactSizeOf", named := ["loop.example/g00527/impl.sizeRows"], apart := false, laid := [("loop.example/g00527/impl.sizeRows", laid_loop_example_g00527_impl_sizeRows)], narrowed := true }
def FnExactSizeOfUptoSaid : Prop := fnExactSizeOfUptoRow.holds Tryd.pinned (OpenSpec.upto fnExactSizeOfSpec)

/-- 'laws.FnExactPutNumber', WHERE WHAT IT READS IS OF BULK AT MOST 1048576: true; the input reads as it did. -/
def fnExactPutNumberUptoRow : OpenClaim := { program := "ythpimklbdabdhaqdoor", sum := "5e0e428b2cee32685b253bccc36bbb9e5575dd758e6e11157c5c50789ef7859c", func := "loop.example/g00527/laws.FnExactPutNumber", spec := "fnExactPutNumber", named := ["loop.example/g00527/impl.sizeRows"], apart := false, laid := [("loop.example/g00527/impl.sizeRows", laid_loop_example_g00527_impl_sizeRows)], narrowed := true }
def FnExactPutNumberUptoSaid : Prop := fnExactPutNumberUptoRow.holds Tryd.pinned (OpenSpec.upto fnExactPutNumberSpec)

end Rows
end Go.Proofs.YthpimklbdabdhaqDoor
