/-
  No cell of these rows narrows 'for every input' (looked for: loops, veiled, ifaces, maps, wideKeys, modest, calm, conditions, laid).
  DERIVED. THE GIVEN ROWS OF THIS SEAT. 5 by the template 'for every input the law returns true; each argument reads behind the call as it read before'; 0 by the template 'total and deterministic' (their statements: YtndbdioignmaeatTotals.lean).
  GIVEN WITH THE SEED: the statements are not yours to turn. If you find one false, say at which input.
  Laid BY PROGRAM, IN A SANDBOX (cutbox-rows.mjs): the forced cells as the released guide's own fill.sh prints them over the translation 1d84ef0a8e049422… (all of the seat's roots in one cut). By AI agents, Wed Nov 11 2026. No macro, syntax, notation, axiom, sorry.
-/
import Derived.Test.YtndbdioignmaeatChecked
import GoSem.Claim
import GoSem.ClaimJoined
import GoSem.ClaimMapViews
import Derived.JoinedTies
import Derived.KernelRfl
namespace Go.Proofs.Ytndbdioignmaeat
/- THE CELL 'sum', in the pinned program and in every row, IS THE sha256 OF THE DUMP (.gsa) THAT YtndbdioignmaeatProg.lean LOADS. Nothing in Lean hashes anything: it is a label: what it is worth is what the hold of that sum in a sandbox is worth. -/
noncomputable def Try.pinned : Pinned := { name := "ytndbdioignmaeat", sum := "1d84ef0a8e049422634e855ff76255a8c776cd0607f3db9d9e2e121e8aeabde4", checked := Try.checked }
namespace Rows
def none {H : Type} : Left H := { results := [], args := [] }

/-- 'laws.FnExactHasPoint': WHATEVER THE INPUT: true; the input reads as it did. -/
def fnExactHasPointSpec : ChangeSpec := { name := "fnExactHasPoint", fn := fun _ => fun
  | [d1, d2] => { results := [.lit (.bool true)], args := [d1, d2] }
  | _ => none }
def fnExactHasPointRow : OpenClaim := { program := "ytndbdioignmaeat", sum := "1d84ef0a8e049422634e855ff76255a8c776cd0607f3db9d9e2e121e8aeabde4", func := "loop.example/g00527/laws.FnExactHasPoint", spec := "fnExactHasPoint", apart := false }
def FnExactHasPointSaid : Prop := fnExactHasPointRow.holds Try.pinned (OpenSpec.ofChange fnExactHasPointSpec)

/-- ITS FALSE NEIGHBOUR: 'it returns false'. Refute it at one input. -/
def fnExactHasPointWrong : ChangeSpec := { name := "fnExactHasPoint", fn := fun _ => fun
  | [d1, d2] => { results := [.lit (.bool false)], args := [d1, d2] }
  | _ => none }
def FnExactHasPointWrongFalsely : Prop := fnExactHasPointRow.holds Try.pinned (OpenSpec.ofChange fnExactHasPointWrong)

/-- 'laws.FnExactCutSpan': WHATEVER THE INPUT: true; the input reads as it did. -/
def fnExactCutSpanSpec : ChangeSpec := { name := "fnExactCutSpan", fn := fun _ => fun
  | [d1, d2] => { results := [.lit (.bool true)], args := [d1, d2] }
  | _ => none }
def fnExactCutSpanRow : OpenClaim := { program := "ytndbdioignmaeat", sum := "1d84ef0a8e049422634e855ff76255a8c776cd0607f3db9d9e2e121e8aeabde4", func := "loop.example/g00527/laws.FnExactCutSpan", spec := "fnExactCutSpan", apart := false }
def FnExactCutSpanSaid : Prop := fnExactCutSpanRow.holds Try.pinned (OpenSpec.ofChange fnExactCutSpanSpec)

/-- ITS FALSE NEIGHBOUR: 'it returns false'. Refute it at one input. -/
def fnExactCutSpanWrong : ChangeSpec := { name := "fnExactCutSpan", fn := fun _ => fun
  | [d1, d2] => { results := [.lit (.bool false)], args := [d1, d2] }
  | _ => none }
def FnExactCutSpanWrongFalsely : Prop := fnExactCutSpanRow.holds Try.pinned (OpenSpec.ofChange fnExactCutSpanWrong)

/-- 'laws.FnExactLessWork': WHATEVER THE INPUT: true; the input reads as it did. -/
def fnExactLessWorkSpec : ChangeSpec := { name := "fnExactLessWork", fn := fun _ => fun
  | [d1, d2] => { results := [.lit (.bool true)], args := [d1, d2] }
  | _ => none }
def fnExactLessWorkRow : OpenClaim := { program := "ytndbdioignmaeat", sum := "1d84ef0a8e049422634e855ff76255a8c776cd0607f3db9d9e2e121e8aeabde4", func := "loop.example/g00527/laws.FnExactLessWork", spec := "fnExactLessWork", apart := false }
def FnExactLessWorkSaid : Prop := fnExactLessWorkRow.holds Try.pinned (OpenSpec.ofChange fnExactLessWorkSpec)

/-- ITS FALSE NEIGHBOUR: 'it returns false'. Refute it at one input. -/
def fnExactLessWorkWrong : ChangeSpec := { name := "fnExactLessWork", fn := fun _ => fun
  | [d1, d2] => { results := [.lit (.bool false)], args := [d1, d2] }
  | _ => none }
def FnExactLessWorkWrongFalsely : Prop := fnExactLessWorkRow.holds Try.pinned (OpenSpec.ofChange fnExactLessWorkWrong)

/-- 'laws.FnExactIsHeap': WHATEVER THE INPUT: true; the input reads as it did. -/
def fnExactIsHeapSpec : ChangeSpec := { name := "fnExactIsHeap", fn := fun _ => fun
  | [d] => { results := [.lit (.bool true)], args := [d] }
  | _ => none }
def fnExactIsHeapRow : OpenClaim := { program := "ytndbdioignmaeat", sum := "1d84ef0a8e049422634e855ff76255a8c776cd0607f3db9d9e2e121e8aeabde4", func := "loop.example/g00527/laws.FnExactIsHeap", spec := "fnExactIsHeap", unfollowed := true, recurses := true, apart := false }
def FnExactIsHeapSaid : Prop := fnExactIsHeapRow.holds Try.pinned (OpenSpec.ofChange fnExactIsHeapSpec)

/-- ITS FALSE NEIGHBOUR: 'it returns false'. Refute it at one input. -/
def fnExactIsHeapWrong : ChangeSpec := { name := "fnExactIsHeap", fn := fun _ => fun
  | [d] => { results := [.lit (.bool false)], args := [d] }
  | _ => none }
def FnExactIsHeapWrongFalsely : Prop := fnExactIsHeapRow.holds Try.pinned (OpenSpec.ofChange fnExactIsHeapWrong)

/-- 'laws.FnExactPushHeap': WHATEVER THE INPUT: true; the input reads as it did. -/
def fnExactPushHeapSpec : ChangeSpec := { name := "fnExactPushHeap", fn := fun _ => fun
  | [d1, d2] => { results := [.lit (.bool true)], args := [d1, d2] }
  | _ => none }
def fnExactPushHeapRow : OpenClaim := { program := "ytndbdioignmaeat", sum := "1d84ef0a8e049422634e855ff76255a8c776cd0607f3db9d9e2e121e8aeabde4", func := "loop.example/g00527/laws.FnExactPushHeap", spec := "fnExactPushHeap", unfollowed := true, recurses := true, apart := false }
def FnExactPushHeapSaid : Prop := fnExactPushHeapRow.holds Try.pinned (OpenSpec.ofChange fnExactPushHeapSpec)

/-- ITS FALSE NEIGHBOUR: 'it returns false'. Refute it at one input. -/
def fnExactPushHeapWrong : ChangeSpec := { name := "fnExactPushHeap", fn := fun _ => fun
  | [d1, d2] => { results := [.lit (.bool false)], args := [d1, d2] }
  | _ => none }
def FnExactPushHeapWrongFalsely : Prop := fnExactPushHeapRow.holds Try.pinned (OpenSpec.ofChange fnExactPushHeapWrong)

/- THE SECOND FORM. 'bulk': how many values and letters a reading holds, each counted each time it is reached (what is shared counts as often as it is met; a slice's spare places count too). A statement '..UptoSaid' is the law's where the arguments, and the package variables that the reading takes, are together of bulk at most 1048576: NARROWER than '..Said'. Prove '..Said' where nothing that the law and all that it calls make is longer than what came in: it says more and counts as full. Else prove '..UptoSaid'. A law counts once. -/
mutual
def uptoBulk {H : Type} : DataW H → Nat
  | .lit (.string bytes) => bytes.length + 1
  | .lit _ => 1
  | .nil => 1
  | .ptr d => uptoBulk d + 1
  | .slice elems spare => uptoBulkAll elems + uptoBulkAll spare + 1
  | .agg parts => uptoBulkAll parts + 1
  | .iface _ d => uptoBulk d + 1
  | .map entries => uptoBulkEntries entries + 1
  | .held _ => 1
def uptoBulkAll {H : Type} : List (DataW H) → Nat
  | [] => 0
  | d :: r => uptoBulk d + uptoBulkAll r
def uptoBulkEntries {H : Type} : List (Lit × DataW H) → Nat
  | [] => 0
  | x :: r => uptoBulkEntry x + uptoBulkEntries r
def uptoBulkEntry {H : Type} : Lit × DataW H → Nat
  | (.string bytes, d) => bytes.length + uptoBulk d + 1
  | (_, d) => uptoBulk d + 1
 end
def uptoSmall : (H : Type) → List (DataW H) → Bool := fun _ ds => decide (uptoBulkAll ds ≤ 1048576)
def OpenSpec.upto (s : _root_.Go.ChangeSpec) : _root_.Go.OpenSpec := { _root_.Go.OpenSpec.ofChange s with cond := some uptoSmall }

/-- 'laws.FnExactHasPoint', WHERE WHAT IT READS IS OF BULK AT MOST 1048576: true; the input reads as it did. -/
def fnExactHasPointUptoRow : OpenClaim := { program := "ytndbdioignmaeat", sum := "1d84ef0a8e049422634e855ff76255a8c776cd0607f3db9d9e2e121e8aeabde4", func := "loop.example/g00527/laws.FnExactHasPoint", spec := "fnExactHasPoint", apart := false, narrowed := true }
def FnExactHasPointUptoSaid : Prop := fnExactHasPointUptoRow.holds Try.pinned (OpenSpec.upto fnExactHasPointSpec)

/-- 'laws.FnExactCutSpan', WHERE WHAT IT READS IS OF BULK AT MOST 1048576: true; the input reads as it did. -/
def fnExactCutSpanUptoRow : OpenClaim := { program := "ytndbdioignmaeat", sum := "1d84ef0a8e049422634e855ff76255a8c776cd0607f3db9d9e2e121e8aeabde4", func := "loop.example/g00527/laws.FnExactCutSpan", spec := "fnExactCutSpan", apart := false, narrowed := true }
def FnExactCutSpanUptoSaid : Prop := fnExactCutSpanUptoRow.holds Try.pinned (OpenSpec.upto fnExactCutSpanSpec)

/-- 'laws.FnExactLessWork', WHERE WHAT IT READS IS OF BULK AT MOST 1048576: true; the input reads as it did. -/
def fnExactLessWorkUptoRow : OpenClaim := { program := "ytndbdioignmaeat", sum := "1d84ef0a8e049422634e855ff76255a8c776cd0607f3db9d9e2e121e8aeabde4", func := "loop.example/g00527/laws.FnExactLessWork", spec := "fnExactLessWork", apart := false, narrowed := true }
def FnExactLessWorkUptoSaid : Prop := fnExactLessWorkUptoRow.holds Try.pinned (OpenSpec.upto fnExactLessWorkSpec)

/-- 'laws.FnExactIsHeap', WHERE WHAT IT READS IS OF BULK AT MOST 1048576: true; the input reads as it did. -/
def fnExactIsHeapUptoRow : OpenClaim := { program := "ytndbdioignmaeat", sum := "1d84ef0a8e049422634e855ff76255a8c776cd0607f3db9d9e2e121e8aeabde4", func := "loop.example/g00527/laws.FnExactIsHeap", spec := "fnExactIsHeap", unfollowed := true, recurses := true, apart := false, narrowed := true }
def FnExactIsHeapUptoSaid : Prop := fnExactIsHeapUptoRow.holds Try.pinned (OpenSpec.upto fnExactIsHeapSpec)

/-- 'laws.FnExactPushHeap', WHERE WHAT IT READS IS OF BULK AT MOST 1048576: true; the input reads as it did. -/
def fnExactPushHeapUptoRow : OpenClaim := { program := "ytndbdioignmaeat", sum := "1d84ef0a8e049422634e855ff76255a8c776cd0607f3db9d9e2e121e8aeabde4", func := "loop.example/g00527/laws.FnExactPushHeap", spec := "fnExactPushHeap", unfollowed := true, recurses := true, apart := false, narrowed := true }
def FnExactPushHeapUptoSaid : Prop := fnExactPushHeapUptoRow.holds Try.pinned (OpenSpec.upto fnExactPushHeapSpec)

end Rows
end Go.Proofs.Ytndbdioignmaeat
