/-
  NARROWER THAN 'FOR EVERY INPUT', by the rows' own cells (each row's printed sentence says how): FnExactGetNumber: laid · FnExactPutWide: laid · FnExactPutList: laid · FnExactGetList: laid · FnExactPutText: laid · FnExactGetText: laid.
  DERIVED. THE GIVEN ROWS OF THIS SEAT. 6 by the template 'for every input the law returns true; each argument reads behind the call as it read before'; 0 by the template 'total and deterministic' (their statements: YthpimklbdabdharDoorTotals.lean).
  GIVEN WITH THE SEED: the statements are not yours to turn. If you find one false, say at which input.
  Laid BY PROGRAM, IN A SANDBOX (cutbox-rows.mjs): the forced cells as the released guide's own fill.sh prints them over the translation 2fc5d9b1355b9ef2… (all of the seat's roots in one cut). By AI agents, Wed Nov 11 2026. No macro, syntax, notation, axiom, sorry.
-/
import Derived.Test.YthpimklbdabdharDoorChecked
import GoSem.Claim
import GoSem.ClaimJoined
import GoSem.ClaimMapViews
import Derived.JoinedTies
import Derived.KernelRfl
namespace Go.Proofs.YthpimklbdabdharDoor
/- THE CELL 'sum', in the pinned program and in every row, IS THE sha256 OF THE DUMP (.gsa) THAT YthpimklbdabdharDoorProg.lean LOADS. Nothing in Lean hashes anything: it is a label: what it is worth is what the hold of that sum in a sandbox is worth. -/
noncomputable def Tryd.pinned : Pinned := { name := "ythpimklbdabdhardoor", sum := "2fc5d9b1355b9ef2ec8aea768b44b9b678daf06f300316c813ff1f982433d1d4", checked := Tryd.checked }
namespace Rows
def none {H : Type} : Left H := { results := [], args := [] }

/- WHAT THE LISTED PACKAGE-LEVEL VARIABLES READ AS WHEN THE CALL BEGINS. Each datum BY PROGRAM (the guide's laid-datum.mjs) off the statement by which the dump's own 'gosem.cut.vars' lays the variable. In a bare row this is a premise. The card (YthpimklbdabdharDoorCards.lean) ties it to the program's text. -/
def laid_loop_example_g00527_impl_sizeRows {H : Type} : DataW H := .agg [.agg [.lit (.int .i64 1), .lit (.int .i64 64)], .agg [.lit (.int .i64 2), .lit (.int .i64 16384)], .agg [.lit (.int .i64 4), .lit (.int .i64 1073741824)], .agg [.lit (.int .i64 8), .lit (.int .i64 1152921504606846976)]]

/-- 'laws.FnExactGetNumber': WHATEVER THE INPUT: true; the input reads as it did. -/
def fnExactGetNumberSpec : ChangeSpec := { name := "fnExactGetNumber", vars := ["loop.example/g00527/impl.sizeRows"], fn := fun _ => fun
  | [d1, d2, g1] => { results := [.lit (.bool true)], args := [d1, d2], vars := [g1] }
  | _ => none }
def fnExactGetNumberRow : OpenClaim := { program := "ythpimklbdabdhardoor", sum := "2fc5d9b1355b9ef2ec8aea768b44b9b678daf06f300316c813ff1f982433d1d4", func := "loop.example/g00527/laws.FnExactGetNumber", spec := "fnExactGetNumber", named := ["loop.example/g00527/impl.sizeRows"], apart := false, laid := [("loop.example/g00527/impl.sizeRows", laid_loop_example_g00527_impl_sizeRows)] }
def FnExactGetNumberSaid : Prop := fnExactGetNumberRow.holds Tryd.pinned (OpenSpec.ofChange fnExactGetNumberSpec)

/-- ITS FALSE NEIGHBOUR: 'it returns false'. Refute it at one input. -/
def fnExactGetNumberWrong : ChangeSpec := { name := "fnExactGetNumber", vars := ["loop.example/g00527/impl.sizeRows"], fn := fun _ => fun
  | [d1, d2, g1] => { results := [.lit (.bool false)], args := [d1, d2], vars := [g1] }
  | _ => none }
def FnExactGetNumberWrongFalsely : Prop := fnExactGetNumberRow.holds Tryd.pinned (OpenSpec.ofChange fnExactGetNumberWrong)

/-- 'laws.FnExactPutWide': WHATEVER THE INPUT: true; the input reads as it did. -/
def fnExactPutWideSpec : ChangeSpec := { name := "fnExactPutWide", vars := ["loop.example/g00527/impl.sizeRows"], fn := fun _ => fun
  | [d1, d2, g1] => { results := [.lit (.bool true)], args := [d1, d2], vars := [g1] }
  | _ => none }
def fnExactPutWideRow : OpenClaim := { program := "ythpimklbdabdhardoor", sum := "2fc5d9b1355b9ef2ec8aea768b44b9b678daf06f300316c813ff1f982433d1d4", func := "loop.example/g00527/laws.FnExactPutWide", spec := "fnExactPutWide", named := ["loop.example/g00527/impl.sizeRows"], apart := false, laid := [("loop.example/g00527/impl.sizeRows", laid_loop_example_g00527_impl_sizeRows)] }
def FnExactPutWideSaid : Prop := fnExactPutWideRow.holds Tryd.pinned (OpenSpec.ofChange fnExactPutWideSpec)

/-- ITS FALSE NEIGHBOUR: 'it returns false'. Refute it at one input. -/
def fnExactPutWideWrong : ChangeSpec := { name := "fnExactPutWide", vars := ["loop.example/g00527/impl.sizeRows"], fn := fun _ => fun
  | [d1, d2, g1] => { results := [.lit (.bool false)], args := [d1, d2], vars := [g1] }
  | _ => none }
def FnExactPutWideWrongFalsely : Prop := fnExactPutWideRow.holds Tryd.pinned (OpenSpec.ofChange fnExactPutWideWrong)

/-- 'laws.FnExactPutList': WHATEVER THE INPUT: true; the input reads as it did. -/
def fnExactPutListSpec : ChangeSpec := { name := "fnExactPutList", vars := ["loop.example/g00527/impl.sizeRows"], fn := fun _ => fun
  | [d, g1] => { results := [.lit (.bool true)], args := [d], vars := [g1] }
  | _ => none }
def fnExactPutListRow : OpenClaim := { program := "ythpimklbdabdhardoor", sum := "2fc5d9b1355b9ef2ec8aea768b44b9b678daf06f300316c813ff1f982433d1d4", func := "loop.example/g00527/laws.FnExactPutList", spec := "fnExactPutList", inPlace := ["internal/abi.NoEscape"], named := ["loop.example/g00527/impl.sizeRows"], apart := false, laid := [("loop.example/g00527/impl.sizeRows", laid_loop_example_g00527_impl_sizeRows)] }
def FnExactPutListSaid : Prop := fnExactPutListRow.holds Tryd.pinned (OpenSpec.ofChange fnExactPutListSpec)

/-- ITS FALSE NEIGHBOUR: 'it returns false'. Refute it at one input. -/
def fnExactPutListWrong : ChangeSpec := { name := "fnExactPutList", vars := ["loop.example/g00527/impl.sizeRows"], fn := fun _ => fun
  | [d, g1] => { results := [.lit (.bool false)], args := [d], vars := [g1] }
  | _ => none }
def FnExactPutListWrongFalsely : Prop := fnExactPutListRow.holds Tryd.pinned (OpenSpec.ofChange fnExactPutListWrong)

/-- 'laws.FnExactGetList': WHATEVER THE INPUT: true; the input reads as it did. -/
def fnExactGetListSpec : ChangeSpec := { name := "fnExactGetList", vars := ["loop.example/g00527/impl.sizeRows"], fn := fun _ => fun
  | [d, g1] => { results := [.lit (.bool true)], args := [d], vars := [g1] }
  | _ => none }
def fnExactGetListRow : OpenClaim := { program := "ythpimklbdabdhardoor", sum := "2fc5d9b1355b9ef2ec8aea768b44b9b678daf06f300316c813ff1f982433d1d4", func := "loop.example/g00527/laws.FnExactGetList", spec := "fnExactGetList", named := ["loop.example/g00527/impl.sizeRows"], apart := false, laid := [("loop.example/g00527/impl.sizeRows", laid_loop_example_g00527_impl_sizeRows)] }
def FnExactGetListSaid : Prop := fnExactGetListRow.holds Tryd.pinned (OpenSpec.ofChange fnExactGetListSpec)

/-- ITS FALSE NEIGHBOUR: 'it returns false'. Refute it at one input. -/
def fnExactGetListWrong : ChangeSpec := { name := "fnExactGetList", vars := ["loop.example/g00527/impl.sizeRows"], fn := fun _ => fun
  | [d, g1] => { results := [.lit (.bool false)], args := [d], vars := [g1] }
  | _ => none }
def FnExactGetListWrongFalsely : Prop := fnExactGetListRow.holds Tryd.pinned (OpenSpec.ofChange fnExactGetListWrong)

/-- 'laws.FnExactPutText': WHATEVER THE INPUT: true; the input reads as it did. -/
def fnExactPutTextSpec : ChangeSpec := { name := "fnExactPutText", vars := ["loop.example/g00527/impl.sizeRows"], fn := fun _ => fun
  | [d, g1] => { results := [.lit (.bool true)], args := [d], vars := [g1] }
  | _ => none }
def fnExactPutTextRow : OpenClaim := { program := "ythpimklbdabdhardoor", sum := "2fc5d9b1355b9ef2ec8aea768b44b9b678daf06f300316c813ff1f982433d1d4", func := "loop.example/g00527/laws.FnExactPutText", spec := "fnExactPutText", named := ["loop.example/g00527/impl.sizeRows"], apart := false, laid := [("loop.example/g00527/impl.sizeRows", laid_loop_example_g00527_impl_sizeRows)] }
def FnExactPutTextSaid : Prop := fnExactPutTextRow.holds Tryd.pinned (OpenSpec.ofChange fnExactPutTextSpec)

/-- ITS FALSE NEIGHBOUR: 'it returns false'. Refute it at one input. -/
def fnExactPutTextWrong : ChangeSpec := { name := "fnExactPutText", vars := ["loop.example/g00527/impl.sizeRows"], fn := fun _ => fun
  | [d, g1] => { results := [.lit (.bool false)], args := [d], vars := [g1] }
  | _ => none }
def FnExactPutTextWrongFalsely : Prop := fnExactPutTextRow.holds Tryd.pinned (OpenSpec.ofChange fnExactPutTextWrong)

/-- 'laws.FnExactGetText': WHATEVER THE INPUT: true; the input reads as it did. -/
def fnExactGetTextSpec : ChangeSpec := { name := "fnExactGetText", vars := ["loop.example/g00527/impl.sizeRows"], fn := fun _ => fun
  | [d1, d2, g1] => { results := [.lit (.bool true)], args := [d1, d2], vars := [g1] }
  | _ => none }
def fnExactGetTextRow : OpenClaim := { program := "ythpimklbdabdhardoor", sum := "2fc5d9b1355b9ef2ec8aea768b44b9b678daf06f300316c813ff1f982433d1d4", func := "loop.example/g00527/laws.FnExactGetText", spec := "fnExactGetText", named := ["loop.example/g00527/impl.sizeRows"], apart := false, laid := [("loop.example/g00527/impl.sizeRows", laid_loop_example_g00527_impl_sizeRows)] }
def FnExactGetTextSaid : Prop := fnExactGetTextRow.holds Tryd.pinned (OpenSpec.ofChange fnExactGetTextSpec)

/-- ITS FALSE NEIGHBOUR: 'it returns false'. Refute it at one input. -/
def fnExactGetTextWrong : ChangeSpec := { name := "fnExactGetText", vars := ["loop.example/g00527/impl.sizeRows"], fn := fun _ => fun
  | [d1, d2, g1] => { results := [.lit (.bool false)], args := [d1, d2], vars := [g1] }
  | _ => none }
def FnExactGetTextWrongFalsely : Prop := fnExactGetTextRow.holds Tryd.pinned (OpenSpec.ofChange fnExactGetTextWrong)

/- THE SECOND FORM. 'bulk': how many values and letters a reading holds, each counted each time it is reached (what is shared counts as often as it is met; a slice's spare places count too). A statement '..UptoSaid' is the law's where the arguments, and the package variables that the reading takes, are together of bulk at most 1048576: NARROWER than '..Said'. Prove '..Said' where nothing that the law and all that it calls make is longer than what came in: it says more and counts as full. Else prove '..UptoSaid'. A law counts once. -/
mutual
def uptoBulk {H : Type} : DataW H → Nat
  | .lit (.string bytes) => bytes.length + 1
  | .lit _ => 1
  | .nil => 1
  | .ptr d => uptoBulk d + 1
  | .slice elems spare => uptoBulkAll elems + uptoBulkAll spare + 1
  | .agg parts => uptoBulkAll parts + 1
  | .iface _ d => uptoBulk d + 1
  | .map entries => uptoBulkEntries entries + 1
  | .held _ => 1
def uptoBulkAll {H : Type} : List (DataW H) → Nat
  | [] => 0
  | d :: r => uptoBulk d + uptoBulkAll r
def uptoBulkEntries {H : Type} : List (Lit × DataW H) → Nat
  | [] => 0
  | x :: r => uptoBulkEntry x + uptoBulkEntries r
def uptoBulkEntry {H : Type} : Lit × DataW H → Nat
  | (.string bytes, d) => bytes.length + uptoBulk d + 1
  | (_, d) => uptoBulk d + 1
 end
def uptoSmall : (H : Type) → List (DataW H) → Bool := fun _ ds => decide (uptoBulkAll ds ≤ 1048576)
def OpenSpec.upto (s : _root_.Go.ChangeSpec) : _root_.Go.OpenSpec := { _root_.Go.OpenSpec.ofChange s with cond := some uptoSmall }

/-- 'laws.FnExactGetNumber', WHERE WHAT IT READS IS OF BULK AT MOST 1048576: true; the input reads as it did. -/
def fnExactGetNumberUptoRow : OpenClaim := { program := "ythpimklbdabdhardoor", sum := "2fc5d9b1355b9ef2ec8aea768b44b9b678daf06f300316c813ff1f982433d1d4", func := "loop.example/g00527/laws.FnExactGetNumber", spec := "fnExactGetNumber", named := ["loop.example/g00527/impl.sizeRows"], apart := false, laid := [("loop.example/g00527/impl.sizeRows", laid_loop_example_g00527_impl_sizeRows)], narrowed := true }
def FnExactGetNumberUptoSaid : Prop := fnExactGetNumberUptoRow.holds Tryd.pinned (OpenSpec.upto fnExactGetNumberSpec)

/-- 'laws.FnExactPutWide', WHERE WHAT IT READS IS OF BULK AT MOST 1048576: true; the input reads as it did. -/
def fnExactPutWideUptoRow : OpenClaim := { program := "ythpimklbdabdhardoor", sum := "2fc5d9b1355b9ef2ec8aea768b44b9b678daf06f300316c813ff1f982433d1d4", func := "loop.example/g00527/laws.FnExactPutWide", spec := "fnExactPutWide", named := ["loop.example/g00527/impl.sizeRows"], apart := false, laid := [("loop.example/g00527/impl.sizeRows", laid_loop_example_g00527_impl_sizeRows)], narrowed := true }
def FnExactPutWideUptoSaid : Prop := fnExactPutWideUptoRow.holds Tryd.pinned (OpenSpec.upto fnExactPutWideSpec)

/-- 'laws.FnExactPutList', WHERE WHAT IT READS IS OF BULK AT MOST 1048576: true; the input reads as it did. -/
def fnExactPutListUptoRow : OpenClaim := { program := "ythpimklbdabdhardoor", sum := "2fc5d9b1355b9ef2ec8aea768b44b9b678daf06f300316c813ff1f982433d1d4", func := "loop.example/g00527/laws.FnExactPutList", spec := "fnExactPutList", inPlace := ["internal/abi.NoEscape"], named := ["loop.example/g00527/impl.sizeRows"], apart := false, laid := [("loop.example/g00527/impl.sizeRows", laid_loop_example_g00527_impl_sizeRows)], narrowed := true }
def FnExactPutListUptoSaid : Prop := fnExactPutListUptoRow.holds Tryd.pinned (OpenSpec.upto fnExactPutListSpec)

/-- 'laws.FnExactGetList', WHERE WHAT IT READS IS OF BULK AT MOST 1048576: true; the input reads as it did. -/
def fnExactGetListUptoRow : OpenClaim := { program := "ythpimklbdabdhardoor", sum := "2fc5d9b1355b9ef2ec8aea768b44b9b678daf06f300316c813ff1f982433d1d4", func := "loop.example/g00527/laws.FnExactGetList", spec := "fnExactGetList", named := ["loop.example/g00527/impl.sizeRows"], apart := false, laid := [("loop.example/g00527/impl.sizeRows", laid_loop_example_g00527_impl_sizeRows)], narrowed := true }
def FnExactGetListUptoSaid : Prop := fnExactGetListUptoRow.holds Tryd.pinned (OpenSpec.upto fnExactGetListSpec)

/-- 'laws.FnExactPutText', WHERE WHAT IT READS IS OF BULK AT MOST 1048576: true; the input reads as it did. -/
def fnExactPutTextUptoRow : OpenClaim := { program := "ythpimklbdabdhardoor", sum := "2fc5d9b1355b9ef2ec8aea768b44b9b678daf06f300316c813ff1f982433d1d4", func := "loop.example/g00527/laws.FnExactPutText", spec := "fnExactPutText", named := ["loop.example/g00527/impl.sizeRows"], apart := false, laid := [("loop.example/g00527/impl.sizeRows", laid_loop_example_g00527_impl_sizeRows)], narrowed := true }
def FnExactPutTextUptoSaid : Prop := fnExactPutTextUptoRow.holds Tryd.pinned (OpenSpec.upto fnExactPutTextSpec)

/-- 'laws.FnExactGetText', WHERE WHAT IT READS IS OF BULK AT MOST 1048576: true; the input reads as it did. -/
def fnExactGetTextUptoRow : OpenClaim := { program := "ythpimklbdabdhardoor", sum := "2fc5d9b1355b9ef2ec8aea768b44b9b678daf06f300316c813ff1f982433d1d4", func := "loop.example/g00527/laws.FnExactGetText", spec := "fnExactGetText", named := ["loop.example/g00527/impl.sizeRows"], apart := false, laid := [("loop.example/g00527/impl.sizeRows", laid_loop_example_g00527_impl_sizeRows)], narrowed := true }
def FnExactGetTextUptoSaid : Prop := fnExactGetTextUptoRow.holds Tryd.pinned (OpenSpec.upto fnExactGetTextSpec)

end Rows
end Go.Proofs.YthpimklbdabdharDoor
