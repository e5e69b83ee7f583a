/-
  No cell of these rows narrows 'for every input' (looked for: loops, veiled, ifaces, maps, wideKeys, modest, calm, conditions, laid).
  DERIVED. THE GIVEN ROWS OF THIS SEAT. 6 by the template 'for every input the law returns true; each argument reads behind the call as it read before'; 0 by the template 'total and deterministic' (their statements: YtgdclnejlhfhlamTotals.lean).
  GIVEN WITH THE SEED: the statements are not yours to turn. If you find one false, say at which input.
  Laid BY PROGRAM, IN A SANDBOX (cutbox-rows.mjs): the forced cells as the released guide's own fill.sh prints them over the translation 71ee1b22aeda98f0… (all of the seat's roots in one cut). By AI agents, Wed Nov 11 2026. No macro, syntax, notation, axiom, sorry.
-/
import Derived.Test.YtgdclnejlhfhlamChecked
import GoSem.Claim
import GoSem.ClaimJoined
import GoSem.ClaimMapViews
import Derived.JoinedTies
import Derived.KernelRfl
namespace Go.Proofs.Ytgdclnejlhfhlam
/- THE CELL 'sum', in the pinned program and in every row, IS THE sha256 OF THE DUMP (.gsa) THAT YtgdclnejlhfhlamProg.lean LOADS. Nothing in Lean hashes anything: it is a label: what it is worth is what the hold of that sum in a sandbox is worth. -/
noncomputable def Try.pinned : Pinned := { name := "ytgdclnejlhfhlam", sum := "71ee1b22aeda98f029d8c73ebb8c36fb623dafffecb5b63524514ea46d487d7b", checked := Try.checked }
namespace Rows
def none {H : Type} : Left H := { results := [], args := [] }

/-- 'laws.FnExactSpanOf': WHATEVER THE INPUT: true; the input reads as it did. -/
def fnExactSpanOfSpec : ChangeSpec := { name := "fnExactSpanOf", fn := fun _ => fun
  | [d1, d2, d3] => { results := [.lit (.bool true)], args := [d1, d2, d3] }
  | _ => none }
def fnExactSpanOfRow : OpenClaim := { program := "ytgdclnejlhfhlam", sum := "71ee1b22aeda98f029d8c73ebb8c36fb623dafffecb5b63524514ea46d487d7b", func := "loop.example/g00527/laws.FnExactSpanOf", spec := "fnExactSpanOf", unfollowed := true, recurses := true, apart := false }
def FnExactSpanOfSaid : Prop := fnExactSpanOfRow.holds Try.pinned (OpenSpec.ofChange fnExactSpanOfSpec)

/-- ITS FALSE NEIGHBOUR: 'it returns false'. Refute it at one input. -/
def fnExactSpanOfWrong : ChangeSpec := { name := "fnExactSpanOf", fn := fun _ => fun
  | [d1, d2, d3] => { results := [.lit (.bool false)], args := [d1, d2, d3] }
  | _ => none }
def FnExactSpanOfWrongFalsely : Prop := fnExactSpanOfRow.holds Try.pinned (OpenSpec.ofChange fnExactSpanOfWrong)

/-- 'laws.FnExactBestSpan': WHATEVER THE INPUT: true; the input reads as it did. -/
def fnExactBestSpanSpec : ChangeSpec := { name := "fnExactBestSpan", fn := fun _ => fun
  | [d1, d2] => { results := [.lit (.bool true)], args := [d1, d2] }
  | _ => none }
def fnExactBestSpanRow : OpenClaim := { program := "ytgdclnejlhfhlam", sum := "71ee1b22aeda98f029d8c73ebb8c36fb623dafffecb5b63524514ea46d487d7b", func := "loop.example/g00527/laws.FnExactBestSpan", spec := "fnExactBestSpan", unfollowed := true, recurses := true, apart := false }
def FnExactBestSpanSaid : Prop := fnExactBestSpanRow.holds Try.pinned (OpenSpec.ofChange fnExactBestSpanSpec)

/-- ITS FALSE NEIGHBOUR: 'it returns false'. Refute it at one input. -/
def fnExactBestSpanWrong : ChangeSpec := { name := "fnExactBestSpan", fn := fun _ => fun
  | [d1, d2] => { results := [.lit (.bool false)], args := [d1, d2] }
  | _ => none }
def FnExactBestSpanWrongFalsely : Prop := fnExactBestSpanRow.holds Try.pinned (OpenSpec.ofChange fnExactBestSpanWrong)

/-- 'laws.FnExactLeastSpan': WHATEVER THE INPUT: true; the input reads as it did. -/
def fnExactLeastSpanSpec : ChangeSpec := { name := "fnExactLeastSpan", fn := fun _ => fun
  | [d1, d2] => { results := [.lit (.bool true)], args := [d1, d2] }
  | _ => none }
def fnExactLeastSpanRow : OpenClaim := { program := "ytgdclnejlhfhlam", sum := "71ee1b22aeda98f029d8c73ebb8c36fb623dafffecb5b63524514ea46d487d7b", func := "loop.example/g00527/laws.FnExactLeastSpan", spec := "fnExactLeastSpan", unfollowed := true, recurses := true, apart := false }
def FnExactLeastSpanSaid : Prop := fnExactLeastSpanRow.holds Try.pinned (OpenSpec.ofChange fnExactLeastSpanSpec)

/-- ITS FALSE NEIGHBOUR: 'it returns false'. Refute it at one input. -/
def fnExactLeastSpanWrong : ChangeSpec := { name := "fnExactLeastSpan", fn := fun _ => fun
  | [d1, d2] => { results := [.lit (.bool false)], args := [d1, d2] }
  | _ => none }
def FnExactLeastSpanWrongFalsely : Prop := fnExactLeastSpanRow.holds Try.pinned (OpenSpec.ofChange fnExactLeastSpanWrong)

/-- 'laws.FnExactArriveAll': WHATEVER THE INPUT: true; the input reads as it did. -/
def fnExactArriveAllSpec : ChangeSpec := { name := "fnExactArriveAll", fn := fun _ => fun
  | [d1, d2] => { results := [.lit (.bool true)], args := [d1, d2] }
  | _ => none }
def fnExactArriveAllRow : OpenClaim := { program := "ytgdclnejlhfhlam", sum := "71ee1b22aeda98f029d8c73ebb8c36fb623dafffecb5b63524514ea46d487d7b", func := "loop.example/g00527/laws.FnExactArriveAll", spec := "fnExactArriveAll", unfollowed := true, recurses := true, apart := false }
def FnExactArriveAllSaid : Prop := fnExactArriveAllRow.holds Try.pinned (OpenSpec.ofChange fnExactArriveAllSpec)

/-- ITS FALSE NEIGHBOUR: 'it returns false'. Refute it at one input. -/
def fnExactArriveAllWrong : ChangeSpec := { name := "fnExactArriveAll", fn := fun _ => fun
  | [d1, d2] => { results := [.lit (.bool false)], args := [d1, d2] }
  | _ => none }
def FnExactArriveAllWrongFalsely : Prop := fnExactArriveAllRow.holds Try.pinned (OpenSpec.ofChange fnExactArriveAllWrong)

/-- 'laws.FnExactLastArrival': WHATEVER THE INPUT: true; the input reads as it did. -/
def fnExactLastArrivalSpec : ChangeSpec := { name := "fnExactLastArrival", fn := fun _ => fun
  | [d1, d2] => { results := [.lit (.bool true)], args := [d1, d2] }
  | _ => none }
def fnExactLastArrivalRow : OpenClaim := { program := "ytgdclnejlhfhlam", sum := "71ee1b22aeda98f029d8c73ebb8c36fb623dafffecb5b63524514ea46d487d7b", func := "loop.example/g00527/laws.FnExactLastArrival", spec := "fnExactLastArrival", unfollowed := true, recurses := true, apart := false }
def FnExactLastArrivalSaid : Prop := fnExactLastArrivalRow.holds Try.pinned (OpenSpec.ofChange fnExactLastArrivalSpec)

/-- ITS FALSE NEIGHBOUR: 'it returns false'. Refute it at one input. -/
def fnExactLastArrivalWrong : ChangeSpec := { name := "fnExactLastArrival", fn := fun _ => fun
  | [d1, d2] => { results := [.lit (.bool false)], args := [d1, d2] }
  | _ => none }
def FnExactLastArrivalWrongFalsely : Prop := fnExactLastArrivalRow.holds Try.pinned (OpenSpec.ofChange fnExactLastArrivalWrong)

/-- 'laws.FnExactNewGreet': WHATEVER THE INPUT: true; the input reads as it did. -/
def fnExactNewGreetSpec : ChangeSpec := { name := "fnExactNewGreet", fn := fun _ => fun
  | [] => { results := [.lit (.bool true)], args := [] }
  | _ => none }
def fnExactNewGreetRow : OpenClaim := { program := "ytgdclnejlhfhlam", sum := "71ee1b22aeda98f029d8c73ebb8c36fb623dafffecb5b63524514ea46d487d7b", func := "loop.example/g00527/laws.FnExactNewGreet", spec := "fnExactNewGreet", apart := false }
def FnExactNewGreetSaid : Prop := fnExactNewGreetRow.holds Try.pinned (OpenSpec.ofChange fnExactNewGreetSpec)

/-- ITS FALSE NEIGHBOUR: 'it returns false'. Refute it at one input. -/
def fnExactNewGreetWrong : ChangeSpec := { name := "fnExactNewGreet", fn := fun _ => fun
  | [] => { results := [.lit (.bool false)], args := [] }
  | _ => none }
def FnExactNewGreetWrongFalsely : Prop := fnExactNewGreetRow.holds Try.pinned (OpenSpec.ofChange fnExactNewGreetWrong)

/- THE SECOND FORM. 'bulk': how many values and letters a reading holds, each counted each time it is reached (what is shared counts as often as it is met; a slice's spare places count too). A statement '..UptoSaid' is the law's where the arguments, and the package variables that the reading takes, are together of bulk at most 1048576: NARROWER than '..Said'. Prove '..Said' where nothing that the law and all that it calls make is longer than what came in: it says more and counts as full. Else prove '..UptoSaid'. A law counts once. -/
mutual
def uptoBulk {H : Type} : DataW H → Nat
  | .lit (.string bytes) => bytes.length + 1
  | .lit _ => 1
  | .nil => 1
  | .ptr d => uptoBulk d + 1
  | .slice elems spare => uptoBulkAll elems + uptoBulkAll spare + 1
  | .agg parts => uptoBulkAll parts + 1
  | .iface _ d => uptoBulk d + 1
  | .map entries => uptoBulkEntries entries + 1
  | .held _ => 1
def uptoBulkAll {H : Type} : List (DataW H) → Nat
  | [] => 0
  | d :: r => uptoBulk d + uptoBulkAll r
def uptoBulkEntries {H : Type} : List (Lit × DataW H) → Nat
  | [] => 0
  | x :: r => uptoBulkEntry x + uptoBulkEntries r
def uptoBulkEntry {H : Type} : Lit × DataW H → Nat
  | (.string bytes, d) => bytes.length + uptoBulk d + 1
  | (_, d) => uptoBulk d + 1
 end
def uptoSmall : (H : Type) → List (DataW H) → Bool := fun _ ds => decide (uptoBulkAll ds ≤ 1048576)
def OpenSpec.upto (s : _root_.Go.ChangeSpec) : _root_.Go.OpenSpec := { _root_.Go.OpenSpec.ofChange s with cond := some uptoSmall }

/-- 'laws.FnExactSpanOf', WHERE WHAT IT READS IS OF BULK AT MOST 1048576: true; the input reads as it did. -/
def fnExactSpanOfUptoRow : OpenClaim := { program := "ytgdclnejlhfhlam", sum := "71ee1b22aeda98f029d8c73ebb8c36fb623dafffecb5b63524514ea46d487d7b", func := "loop.example/g00527/laws.FnExactSpanOf", spec := "fnExactSpanOf", unfollowed := true, recurses := true, apart := false, narrowed := true }
def FnExactSpanOfUptoSaid : Prop := fnExactSpanOfUptoRow.holds Try.pinned (OpenSpec.upto fnExactSpanOfSpec)

/-- 'laws.FnExactBestSpan', WHERE WHAT IT READS IS OF BULK AT MOST 1048576: true; the input reads as it did. -/
def fnExactBestSpanUptoRow : OpenClaim := { program := "ytgdclnejlhfhlam", sum := "71ee1b22aeda98f029d8c73ebb8c36fb623dafffecb5b63524514ea46d487d7b", func := "loop.example/g00527/laws.FnExactBestSpan", spec := "fnExactBestSpan", unfollowed := true, recurses := true, apart := false, narrowed := true }
def FnExactBestSpanUptoSaid : Prop := fnExactBestSpanUptoRow.holds Try.pinned (OpenSpec.upto fnExactBestSpanSpec)

/-- 'laws.FnExactLeastSpan', WHERE WHAT IT READS IS OF BULK AT MOST 1048576: true; the input reads as it did. -/
def fnExactLeastSpanUptoRow : OpenClaim := { program := "ytgdclnejlhfhlam", sum := "71ee1b22aeda98f029d8c73ebb8c36fb623dafffecb5b63524514ea46d487d7b", func := "loop.example/g00527/laws.FnExactLeastSpan", spec := "fnExactLeastSpan", unfollowed := true, recurses := true, apart := false, narrowed := true }
def FnExactLeastSpanUptoSaid : Prop := fnExactLeastSpanUptoRow.holds Try.pinned (OpenSpec.upto fnExactLeastSpanSpec)

/-- 'laws.FnExactArriveAll', WHERE WHAT IT READS IS OF BULK AT MOST 1048576: true; the input reads as it did. -/
def fnExactArriveAllUptoRow : OpenClaim := { program := "ytgdclnejlhfhlam", sum := "71ee1b22aeda98f029d8c73ebb8c36fb623dafffecb5b63524514ea46d487d7b", func := "loop.example/g00527/laws.FnExactArriveAll", spec := "fnExactArriveAll", unfollowed := true, recurses := true, apart := false, narrowed := true }
def FnExactArriveAllUptoSaid : Prop := fnExactArriveAllUptoRow.holds Try.pinned (OpenSpec.upto fnExactArriveAllSpec)

/-- 'laws.FnExactLastArrival', WHERE WHAT IT READS IS OF BULK AT MOST 1048576: true; the input reads as it did. -/
def fnExactLastArrivalUptoRow : OpenClaim := { program := "ytgdclnejlhfhlam", sum := "71ee1b22aeda98f029d8c73ebb8c36fb623dafffecb5b63524514ea46d487d7b", func := "loop.example/g00527/laws.FnExactLastArrival", spec := "fnExactLastArrival", unfollowed := true, recurses := true, apart := false, narrowed := true }
def FnExactLastArrivalUptoSaid : Prop := fnExactLastArrivalUptoRow.holds Try.pinned (OpenSpec.upto fnExactLastArrivalSpec)

/-- 'laws.FnExactNewGreet', WHERE WHAT IT READS IS OF BULK AT MOST 1048576: true; the input reads as it did. -/
def fnExactNewGreetUptoRow : OpenClaim := { program := "ytgdclnejlhfhlam", sum := "71ee1b22aeda98f029d8c73ebb8c36fb623dafffecb5b63524514ea46d487d7b", func := "loop.example/g00527/laws.FnExactNewGreet", spec := "fnExactNewGreet", apart := false, narrowed := true }
def FnExactNewGreetUptoSaid : Prop := fnExactNewGreetUptoRow.holds Try.pinned (OpenSpec.upto fnExactNewGreetSpec)

end Rows
end Go.Proofs.Ytgdclnejlhfhlam
