/-
  No cell of these rows narrows 'for every input' (looked for: loops, veiled, ifaces, maps, wideKeys, modest, calm, conditions, laid).
  DERIVED. THE GIVEN ROWS OF THIS SEAT. 6 by the template 'for every input the law returns true; each argument reads behind the call as it read before'; 0 by the template 'total and deterministic' (their statements: YthmkeinhjlmgmahTotals.lean).
  GIVEN WITH THE SEED: the statements are not yours to turn. If you find one false, say at which input.
  Laid BY PROGRAM, IN A SANDBOX (cutbox-rows.mjs): the forced cells as the released guide's own fill.sh prints them over the translation e63583ea916d154c… (all of the seat's roots in one cut). By AI agents, Wed Nov 11 2026. No macro, syntax, notation, axiom, sorry.
-/
import Derived.Test.YthmkeinhjlmgmahChecked
import GoSem.Claim
import GoSem.ClaimJoined
import GoSem.ClaimMapViews
import Derived.JoinedTies
import Derived.KernelRfl
namespace Go.Proofs.Ythmkeinhjlmgmah
/- THE CELL 'sum', in the pinned program and in every row, IS THE sha256 OF THE DUMP (.gsa) THAT YthmkeinhjlmgmahProg.lean LOADS. Nothing in Lean hashes anything: it is a label: what it is worth is what the hold of that sum in a sandbox is worth. -/
noncomputable def Try.pinned : Pinned := { name := "ythmkeinhjlmgmah", sum := "e63583ea916d154c7f9d30aff828012f9ca3e096ca9f699ba307049d3797c56a", checked := Try.checked }
namespace Rows
def none {H : Type} : Left H := { results := [], args := [] }

/-- 'laws.FnExactIsFairer': WHATEVER THE INPUT: true; the input reads as it did. -/
def fnExactIsFairerSpec : ChangeSpec := { name := "fnExactIsFairer", fn := fun _ => fun
  | [d1, d2] => { results := [.lit (.bool true)], args := [d1, d2] }
  | _ => none }
def fnExactIsFairerRow : OpenClaim := { program := "ythmkeinhjlmgmah", sum := "e63583ea916d154c7f9d30aff828012f9ca3e096ca9f699ba307049d3797c56a", func := "loop.example/g00527/laws.FnExactIsFairer", spec := "fnExactIsFairer", unfollowed := true, recurses := true, apart := false }
def FnExactIsFairerSaid : Prop := fnExactIsFairerRow.holds Try.pinned (OpenSpec.ofChange fnExactIsFairerSpec)

/-- ITS FALSE NEIGHBOUR: 'it returns false'. Refute it at one input. -/
def fnExactIsFairerWrong : ChangeSpec := { name := "fnExactIsFairer", fn := fun _ => fun
  | [d1, d2] => { results := [.lit (.bool false)], args := [d1, d2] }
  | _ => none }
def FnExactIsFairerWrongFalsely : Prop := fnExactIsFairerRow.holds Try.pinned (OpenSpec.ofChange fnExactIsFairerWrong)

/-- 'laws.FnExactNewSender': WHATEVER THE INPUT: true; the input reads as it did. -/
def fnExactNewSenderSpec : ChangeSpec := { name := "fnExactNewSender", fn := fun _ => fun
  | [d] => { results := [.lit (.bool true)], args := [d] }
  | _ => none }
def fnExactNewSenderRow : OpenClaim := { program := "ythmkeinhjlmgmah", sum := "e63583ea916d154c7f9d30aff828012f9ca3e096ca9f699ba307049d3797c56a", func := "loop.example/g00527/laws.FnExactNewSender", spec := "fnExactNewSender", unfollowed := true, recurses := true, apart := false }
def FnExactNewSenderSaid : Prop := fnExactNewSenderRow.holds Try.pinned (OpenSpec.ofChange fnExactNewSenderSpec)

/-- ITS FALSE NEIGHBOUR: 'it returns false'. Refute it at one input. -/
def fnExactNewSenderWrong : ChangeSpec := { name := "fnExactNewSender", fn := fun _ => fun
  | [d] => { results := [.lit (.bool false)], args := [d] }
  | _ => none }
def FnExactNewSenderWrongFalsely : Prop := fnExactNewSenderRow.holds Try.pinned (OpenSpec.ofChange fnExactNewSenderWrong)

/-- 'laws.FnExactGoodSender': WHATEVER THE INPUT: true; the input reads as it did. -/
def fnExactGoodSenderSpec : ChangeSpec := { name := "fnExactGoodSender", fn := fun _ => fun
  | [d] => { results := [.lit (.bool true)], args := [d] }
  | _ => none }
def fnExactGoodSenderRow : OpenClaim := { program := "ythmkeinhjlmgmah", sum := "e63583ea916d154c7f9d30aff828012f9ca3e096ca9f699ba307049d3797c56a", func := "loop.example/g00527/laws.FnExactGoodSender", spec := "fnExactGoodSender", unfollowed := true, recurses := true, apart := false }
def FnExactGoodSenderSaid : Prop := fnExactGoodSenderRow.holds Try.pinned (OpenSpec.ofChange fnExactGoodSenderSpec)

/-- ITS FALSE NEIGHBOUR: 'it returns false'. Refute it at one input. -/
def fnExactGoodSenderWrong : ChangeSpec := { name := "fnExactGoodSender", fn := fun _ => fun
  | [d] => { results := [.lit (.bool false)], args := [d] }
  | _ => none }
def FnExactGoodSenderWrongFalsely : Prop := fnExactGoodSenderRow.holds Try.pinned (OpenSpec.ofChange fnExactGoodSenderWrong)

/-- 'laws.FnExactSendNext': WHATEVER THE INPUT: true; the input reads as it did. -/
def fnExactSendNextSpec : ChangeSpec := { name := "fnExactSendNext", fn := fun _ => fun
  | [d] => { results := [.lit (.bool true)], args := [d] }
  | _ => none }
def fnExactSendNextRow : OpenClaim := { program := "ythmkeinhjlmgmah", sum := "e63583ea916d154c7f9d30aff828012f9ca3e096ca9f699ba307049d3797c56a", func := "loop.example/g00527/laws.FnExactSendNext", spec := "fnExactSendNext", unfollowed := true, recurses := true, apart := false }
def FnExactSendNextSaid : Prop := fnExactSendNextRow.holds Try.pinned (OpenSpec.ofChange fnExactSendNextSpec)

/-- ITS FALSE NEIGHBOUR: 'it returns false'. Refute it at one input. -/
def fnExactSendNextWrong : ChangeSpec := { name := "fnExactSendNext", fn := fun _ => fun
  | [d] => { results := [.lit (.bool false)], args := [d] }
  | _ => none }
def FnExactSendNextWrongFalsely : Prop := fnExactSendNextRow.holds Try.pinned (OpenSpec.ofChange fnExactSendNextWrong)

/-- 'laws.FnExactHearSpans': WHATEVER THE INPUT: true; the input reads as it did. -/
def fnExactHearSpansSpec : ChangeSpec := { name := "fnExactHearSpans", fn := fun _ => fun
  | [d1, d2] => { results := [.lit (.bool true)], args := [d1, d2] }
  | _ => none }
def fnExactHearSpansRow : OpenClaim := { program := "ythmkeinhjlmgmah", sum := "e63583ea916d154c7f9d30aff828012f9ca3e096ca9f699ba307049d3797c56a", func := "loop.example/g00527/laws.FnExactHearSpans", spec := "fnExactHearSpans", unfollowed := true, recurses := true, apart := false }
def FnExactHearSpansSaid : Prop := fnExactHearSpansRow.holds Try.pinned (OpenSpec.ofChange fnExactHearSpansSpec)

/-- ITS FALSE NEIGHBOUR: 'it returns false'. Refute it at one input. -/
def fnExactHearSpansWrong : ChangeSpec := { name := "fnExactHearSpans", fn := fun _ => fun
  | [d1, d2] => { results := [.lit (.bool false)], args := [d1, d2] }
  | _ => none }
def FnExactHearSpansWrongFalsely : Prop := fnExactHearSpansRow.holds Try.pinned (OpenSpec.ofChange fnExactHearSpansWrong)

/-- 'laws.FnExactOpenIn': WHATEVER THE INPUT: true; the input reads as it did. -/
def fnExactOpenInSpec : ChangeSpec := { name := "fnExactOpenIn", fn := fun _ => fun
  | [d] => { results := [.lit (.bool true)], args := [d] }
  | _ => none }
def fnExactOpenInRow : OpenClaim := { program := "ythmkeinhjlmgmah", sum := "e63583ea916d154c7f9d30aff828012f9ca3e096ca9f699ba307049d3797c56a", func := "loop.example/g00527/laws.FnExactOpenIn", spec := "fnExactOpenIn", unfollowed := true, recurses := true, apart := false }
def FnExactOpenInSaid : Prop := fnExactOpenInRow.holds Try.pinned (OpenSpec.ofChange fnExactOpenInSpec)

/-- ITS FALSE NEIGHBOUR: 'it returns false'. Refute it at one input. -/
def fnExactOpenInWrong : ChangeSpec := { name := "fnExactOpenIn", fn := fun _ => fun
  | [d] => { results := [.lit (.bool false)], args := [d] }
  | _ => none }
def FnExactOpenInWrongFalsely : Prop := fnExactOpenInRow.holds Try.pinned (OpenSpec.ofChange fnExactOpenInWrong)

/- THE SECOND FORM. 'bulk': how many values and letters a reading holds, each counted each time it is reached (what is shared counts as often as it is met; a slice's spare places count too). A statement '..UptoSaid' is the law's where the arguments, and the package variables that the reading takes, are together of bulk at most 1048576: NARROWER than '..Said'. Prove '..Said' where nothing that the law and all that it calls make is longer than what came in: it says more and counts as full. Else prove '..UptoSaid'. A law counts once. -/
mutual
def uptoBulk {H : Type} : DataW H → Nat
  | .lit (.string bytes) => bytes.length + 1
  | .lit _ => 1
  | .nil => 1
  | .ptr d => uptoBulk d + 1
  | .slice elems spare => uptoBulkAll elems + uptoBulkAll spare + 1
  | .agg parts => uptoBulkAll parts + 1
  | .iface _ d => uptoBulk d + 1
  | .map entries => uptoBulkEntries entries + 1
  | .held _ => 1
def uptoBulkAll {H : Type} : List (DataW H) → Nat
  | [] => 0
  | d :: r => uptoBulk d + uptoBulkAll r
def uptoBulkEntries {H : Type} : List (Lit × DataW H) → Nat
  | [] => 0
  | x :: r => uptoBulkEntry x + uptoBulkEntries r
def uptoBulkEntry {H : Type} : Lit × DataW H → Nat
  | (.string bytes, d) => bytes.length + uptoBulk d + 1
  | (_, d) => uptoBulk d + 1
 end
def uptoSmall : (H : Type) → List (DataW H) → Bool := fun _ ds => decide (uptoBulkAll ds ≤ 1048576)
def OpenSpec.upto (s : _root_.Go.ChangeSpec) : _root_.Go.OpenSpec := { _root_.Go.OpenSpec.ofChange s with cond := some uptoSmall }

/-- 'laws.FnExactIsFairer', WHERE WHAT IT READS IS OF BULK AT MOST 1048576: true; the input reads as it did. -/
def fnExactIsFairerUptoRow : OpenClaim := { program := "ythmkeinhjlmgmah", sum := "e63583ea916d154c7f9d30aff828012f9ca3e096ca9f699ba307049d3797c56a", func := "loop.example/g00527/laws.FnExactIsFairer", spec := "fnExactIsFairer", unfollowed := true, recurses := true, apart := false, narrowed := true }
def FnExactIsFairerUptoSaid : Prop := fnExactIsFairerUptoRow.holds Try.pinned (OpenSpec.upto fnExactIsFairerSpec)

/-- 'laws.FnExactNewSender', WHERE WHAT IT READS IS OF BULK AT MOST 1048576: true; the input reads as it did. -/
def fnExactNewSenderUptoRow : OpenClaim := { program := "ythmkeinhjlmgmah", sum := "e63583ea916d154c7f9d30aff828012f9ca3e096ca9f699ba307049d3797c56a", func := "loop.example/g00527/laws.FnExactNewSender", spec := "fnExactNewSender", unfollowed := true, recurses := true, apart := false, narrowed := true }
def FnExactNewSenderUptoSaid : Prop := fnExactNewSenderUptoRow.holds Try.pinned (OpenSpec.upto fnExactNewSenderSpec)

/-- 'laws.FnExactGoodSender', WHERE WHAT IT READS IS OF BULK AT MOST 1048576: true; the input reads as it did. -/
def fnExactGoodSenderUptoRow : OpenClaim := { program := "ythmkeinhjlmgmah", sum := "e63583ea916d154c7f9d30aff828012f9ca3e096ca9f699ba307049d3797c56a", func := "loop.example/g00527/laws.FnExactGoodSender", spec := "fnExactGoodSender", unfollowed := true, recurses := true, apart := false, narrowed := true }
def FnExactGoodSenderUptoSaid : Prop := fnExactGoodSenderUptoRow.holds Try.pinned (OpenSpec.upto fnExactGoodSenderSpec)

/-- 'laws.FnExactSendNext', WHERE WHAT IT READS IS OF BULK AT MOST 1048576: true; the input reads as it did. -/
def fnExactSendNextUptoRow : OpenClaim := { program := "ythmkeinhjlmgmah", sum := "e63583ea916d154c7f9d30aff828012f9ca3e096ca9f699ba307049d3797c56a", func := "loop.example/g00527/laws.FnExactSendNext", spec := "fnExactSendNext", unfollowed := true, recurses := true, apart := false, narrowed := true }
def FnExactSendNextUptoSaid : Prop := fnExactSendNextUptoRow.holds Try.pinned (OpenSpec.upto fnExactSendNextSpec)

/-- 'laws.FnExactHearSpans', WHERE WHAT IT READS IS OF BULK AT MOST 1048576: true; the input reads as it did. -/
def fnExactHearSpansUptoRow : OpenClaim := { program := "ythmkeinhjlmgmah", sum := "e63583ea916d154c7f9d30aff828012f9ca3e096ca9f699ba307049d3797c56a", func := "loop.example/g00527/laws.FnExactHearSpans", spec := "fnExactHearSpans", unfollowed := true, recurses := true, apart := false, narrowed := true }
def FnExactHearSpansUptoSaid : Prop := fnExactHearSpansUptoRow.holds Try.pinned (OpenSpec.upto fnExactHearSpansSpec)

/-- 'laws.FnExactOpenIn', WHERE WHAT IT READS IS OF BULK AT MOST 1048576: true; the input reads as it did. -/
def fnExactOpenInUptoRow : OpenClaim := { program := "ythmkeinhjlmgmah", sum := "e63583ea916d154c7f9d30aff828012f9ca3e096ca9f699ba307049d3797c56a", func := "loop.example/g00527/laws.FnExactOpenIn", spec := "fnExactOpenIn", unfollowed := true, recurses := true, apart := false, narrowed := true }
def FnExactOpenInUptoSaid : Prop := fnExactOpenInUptoRow.holds Try.pinned (OpenSpec.upto fnExactOpenInSpec)

end Rows
end Go.Proofs.Ythmkeinhjlmgmah
