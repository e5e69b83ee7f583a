/-
  No cell of these rows narrows 'for every input' (looked for: loops, veiled, ifaces, maps, wideKeys, modest, calm, conditions, laid).
  DERIVED. THE GIVEN ROWS OF THIS SEAT. 6 by the template 'for every input the law returns true; each argument reads behind the call as it read before'; 0 by the template 'total and deterministic' (their statements: YtijojdempijhbaiTotals.lean).
  GIVEN WITH THE SEED: the statements are not yours to turn. If you find one false, say at which input.
  Laid BY PROGRAM, IN A SANDBOX (cutbox-rows.mjs): the forced cells as the released guide's own fill.sh prints them over the translation 0a20d21bffd071c9… (all of the seat's roots in one cut). By AI agents, Wed Nov 11 2026. No macro, syntax, notation, axiom, sorry.
-/
import Derived.Test.YtijojdempijhbaiChecked
import GoSem.Claim
import GoSem.ClaimJoined
import GoSem.ClaimMapViews
import Derived.JoinedTies
import Derived.KernelRfl
namespace Go.Proofs.Ytijojdempijhbai
/- THE CELL 'sum', in the pinned program and in every row, IS THE sha256 OF THE DUMP (.gsa) THAT YtijojdempijhbaiProg.lean LOADS. Nothing in Lean hashes anything: it is a label: what it is worth is what the hold of that sum in a sandbox is worth. -/
noncomputable def Try.pinned : Pinned := { name := "ytijojdempijhbai", sum := "0a20d21bffd071c9cff8bc709f3bc510f4757e5b07e4146bb4c4f6e3d6b45a84", checked := Try.checked }
namespace Rows
def none {H : Type} : Left H := { results := [], args := [] }

/-- 'laws.FnExactAcksOf': WHATEVER THE INPUT: true; the input reads as it did. -/
def fnExactAcksOfSpec : ChangeSpec := { name := "fnExactAcksOf", fn := fun _ => fun
  | [d] => { results := [.lit (.bool true)], args := [d] }
  | _ => none }
def fnExactAcksOfRow : OpenClaim := { program := "ytijojdempijhbai", sum := "0a20d21bffd071c9cff8bc709f3bc510f4757e5b07e4146bb4c4f6e3d6b45a84", func := "loop.example/g00527/laws.FnExactAcksOf", spec := "fnExactAcksOf", recurses := true, apart := false }
def FnExactAcksOfSaid : Prop := fnExactAcksOfRow.holds Try.pinned (OpenSpec.ofChange fnExactAcksOfSpec)

/-- ITS FALSE NEIGHBOUR: 'it returns false'. Refute it at one input. -/
def fnExactAcksOfWrong : ChangeSpec := { name := "fnExactAcksOf", fn := fun _ => fun
  | [d] => { results := [.lit (.bool false)], args := [d] }
  | _ => none }
def FnExactAcksOfWrongFalsely : Prop := fnExactAcksOfRow.holds Try.pinned (OpenSpec.ofChange fnExactAcksOfWrong)

/-- 'laws.FnExactLateBy': WHATEVER THE INPUT: true; the input reads as it did. -/
def fnExactLateBySpec : ChangeSpec := { name := "fnExactLateBy", fn := fun _ => fun
  | [d] => { results := [.lit (.bool true)], args := [d] }
  | _ => none }
def fnExactLateByRow : OpenClaim := { program := "ytijojdempijhbai", sum := "0a20d21bffd071c9cff8bc709f3bc510f4757e5b07e4146bb4c4f6e3d6b45a84", func := "loop.example/g00527/laws.FnExactLateBy", spec := "fnExactLateBy", recurses := true, apart := false }
def FnExactLateBySaid : Prop := fnExactLateByRow.holds Try.pinned (OpenSpec.ofChange fnExactLateBySpec)

/-- ITS FALSE NEIGHBOUR: 'it returns false'. Refute it at one input. -/
def fnExactLateByWrong : ChangeSpec := { name := "fnExactLateBy", fn := fun _ => fun
  | [d] => { results := [.lit (.bool false)], args := [d] }
  | _ => none }
def FnExactLateByWrongFalsely : Prop := fnExactLateByRow.holds Try.pinned (OpenSpec.ofChange fnExactLateByWrong)

/-- 'laws.FnExactPlayHeard': WHATEVER THE INPUT: true; the input reads as it did. -/
def fnExactPlayHeardSpec : ChangeSpec := { name := "fnExactPlayHeard", fn := fun _ => fun
  | [d1, d2] => { results := [.lit (.bool true)], args := [d1, d2] }
  | _ => none }
def fnExactPlayHeardRow : OpenClaim := { program := "ytijojdempijhbai", sum := "0a20d21bffd071c9cff8bc709f3bc510f4757e5b07e4146bb4c4f6e3d6b45a84", func := "loop.example/g00527/laws.FnExactPlayHeard", spec := "fnExactPlayHeard", unfollowed := true, recurses := true, apart := false }
def FnExactPlayHeardSaid : Prop := fnExactPlayHeardRow.holds Try.pinned (OpenSpec.ofChange fnExactPlayHeardSpec)

/-- ITS FALSE NEIGHBOUR: 'it returns false'. Refute it at one input. -/
def fnExactPlayHeardWrong : ChangeSpec := { name := "fnExactPlayHeard", fn := fun _ => fun
  | [d1, d2] => { results := [.lit (.bool false)], args := [d1, d2] }
  | _ => none }
def FnExactPlayHeardWrongFalsely : Prop := fnExactPlayHeardRow.holds Try.pinned (OpenSpec.ofChange fnExactPlayHeardWrong)

/-- 'laws.FnExactParityOf': WHATEVER THE INPUT: true; the input reads as it did. -/
def fnExactParityOfSpec : ChangeSpec := { name := "fnExactParityOf", fn := fun _ => fun
  | [d] => { results := [.lit (.bool true)], args := [d] }
  | _ => none }
def fnExactParityOfRow : OpenClaim := { program := "ytijojdempijhbai", sum := "0a20d21bffd071c9cff8bc709f3bc510f4757e5b07e4146bb4c4f6e3d6b45a84", func := "loop.example/g00527/laws.FnExactParityOf", spec := "fnExactParityOf", apart := false }
def FnExactParityOfSaid : Prop := fnExactParityOfRow.holds Try.pinned (OpenSpec.ofChange fnExactParityOfSpec)

/-- ITS FALSE NEIGHBOUR: 'it returns false'. Refute it at one input. -/
def fnExactParityOfWrong : ChangeSpec := { name := "fnExactParityOf", fn := fun _ => fun
  | [d] => { results := [.lit (.bool false)], args := [d] }
  | _ => none }
def FnExactParityOfWrongFalsely : Prop := fnExactParityOfRow.holds Try.pinned (OpenSpec.ofChange fnExactParityOfWrong)

/-- 'laws.FnExactWithParity': WHATEVER THE INPUT: true; the input reads as it did. -/
def fnExactWithParitySpec : ChangeSpec := { name := "fnExactWithParity", fn := fun _ => fun
  | [d] => { results := [.lit (.bool true)], args := [d] }
  | _ => none }
def fnExactWithParityRow : OpenClaim := { program := "ytijojdempijhbai", sum := "0a20d21bffd071c9cff8bc709f3bc510f4757e5b07e4146bb4c4f6e3d6b45a84", func := "loop.example/g00527/laws.FnExactWithParity", spec := "fnExactWithParity", unfollowed := true, recurses := true, apart := false }
def FnExactWithParitySaid : Prop := fnExactWithParityRow.holds Try.pinned (OpenSpec.ofChange fnExactWithParitySpec)

/-- ITS FALSE NEIGHBOUR: 'it returns false'. Refute it at one input. -/
def fnExactWithParityWrong : ChangeSpec := { name := "fnExactWithParity", fn := fun _ => fun
  | [d] => { results := [.lit (.bool false)], args := [d] }
  | _ => none }
def FnExactWithParityWrongFalsely : Prop := fnExactWithParityRow.holds Try.pinned (OpenSpec.ofChange fnExactWithParityWrong)

/-- 'laws.FnExactMendPiece': WHATEVER THE INPUT: true; the input reads as it did. -/
def fnExactMendPieceSpec : ChangeSpec := { name := "fnExactMendPiece", fn := fun _ => fun
  | [d1, d2] => { results := [.lit (.bool true)], args := [d1, d2] }
  | _ => none }
def fnExactMendPieceRow : OpenClaim := { program := "ytijojdempijhbai", sum := "0a20d21bffd071c9cff8bc709f3bc510f4757e5b07e4146bb4c4f6e3d6b45a84", func := "loop.example/g00527/laws.FnExactMendPiece", spec := "fnExactMendPiece", apart := false }
def FnExactMendPieceSaid : Prop := fnExactMendPieceRow.holds Try.pinned (OpenSpec.ofChange fnExactMendPieceSpec)

/-- ITS FALSE NEIGHBOUR: 'it returns false'. Refute it at one input. -/
def fnExactMendPieceWrong : ChangeSpec := { name := "fnExactMendPiece", fn := fun _ => fun
  | [d1, d2] => { results := [.lit (.bool false)], args := [d1, d2] }
  | _ => none }
def FnExactMendPieceWrongFalsely : Prop := fnExactMendPieceRow.holds Try.pinned (OpenSpec.ofChange fnExactMendPieceWrong)

/- THE SECOND FORM. 'bulk': how many values and letters a reading holds, each counted each time it is reached (what is shared counts as often as it is met; a slice's spare places count too). A statement '..UptoSaid' is the law's where the arguments, and the package variables that the reading takes, are together of bulk at most 1048576: NARROWER than '..Said'. Prove '..Said' where nothing that the law and all that it calls make is longer than what came in: it says more and counts as full. Else prove '..UptoSaid'. A law counts once. -/
mutual
def uptoBulk {H : Type} : DataW H → Nat
  | .lit (.string bytes) => bytes.length + 1
  | .lit _ => 1
  | .nil => 1
  | .ptr d => uptoBulk d + 1
  | .slice elems spare => uptoBulkAll elems + uptoBulkAll spare + 1
  | .agg parts => uptoBulkAll parts + 1
  | .iface _ d => uptoBulk d + 1
  | .map entries => uptoBulkEntries entries + 1
  | .held _ => 1
def uptoBulkAll {H : Type} : List (DataW H) → Nat
  | [] => 0
  | d :: r => uptoBulk d + uptoBulkAll r
def uptoBulkEntries {H : Type} : List (Lit × DataW H) → Nat
  | [] => 0
  | x :: r => uptoBulkEntry x + uptoBulkEntries r
def uptoBulkEntry {H : Type} : Lit × DataW H → Nat
  | (.string bytes, d) => bytes.length + uptoBulk d + 1
  | (_, d) => uptoBulk d + 1
 end
def uptoSmall : (H : Type) → List (DataW H) → Bool := fun _ ds => decide (uptoBulkAll ds ≤ 1048576)
def OpenSpec.upto (s : _root_.Go.ChangeSpec) : _root_.Go.OpenSpec := { _root_.Go.OpenSpec.ofChange s with cond := some uptoSmall }

/-- 'laws.FnExactAcksOf', WHERE WHAT IT READS IS OF BULK AT MOST 1048576: true; the input reads as it did. -/
def fnExactAcksOfUptoRow : OpenClaim := { program := "ytijojdempijhbai", sum := "0a20d21bffd071c9cff8bc709f3bc510f4757e5b07e4146bb4c4f6e3d6b45a84", func := "loop.example/g00527/laws.FnExactAcksOf", spec := "fnExactAcksOf", recurses := true, apart := false, narrowed := true }
def FnExactAcksOfUptoSaid : Prop := fnExactAcksOfUptoRow.holds Try.pinned (OpenSpec.upto fnExactAcksOfSpec)

/-- 'laws.FnExactLateBy', WHERE WHAT IT READS IS OF BULK AT MOST 1048576: true; the input reads as it did. -/
def fnExactLateByUptoRow : OpenClaim := { program := "ytijojdempijhbai", sum := "0a20d21bffd071c9cff8bc709f3bc510f4757e5b07e4146bb4c4f6e3d6b45a84", func := "loop.example/g00527/laws.FnExactLateBy", spec := "fnExactLateBy", recurses := true, apart := false, narrowed := true }
def FnExactLateByUptoSaid : Prop := fnExactLateByUptoRow.holds Try.pinned (OpenSpec.upto fnExactLateBySpec)

/-- 'laws.FnExactPlayHeard', WHERE WHAT IT READS IS OF BULK AT MOST 1048576: true; the input reads as it did. -/
def fnExactPlayHeardUptoRow : OpenClaim := { program := "ytijojdempijhbai", sum := "0a20d21bffd071c9cff8bc709f3bc510f4757e5b07e4146bb4c4f6e3d6b45a84", func := "loop.example/g00527/laws.FnExactPlayHeard", spec := "fnExactPlayHeard", unfollowed := true, recurses := true, apart := false, narrowed := true }
def FnExactPlayHeardUptoSaid : Prop := fnExactPlayHeardUptoRow.holds Try.pinned (OpenSpec.upto fnExactPlayHeardSpec)

/-- 'laws.FnExactParityOf', WHERE WHAT IT READS IS OF BULK AT MOST 1048576: true; the input reads as it did. -/
def fnExactParityOfUptoRow : OpenClaim := { program := "ytijojdempijhbai", sum := "0a20d21bffd071c9cff8bc709f3bc510f4757e5b07e4146bb4c4f6e3d6b45a84", func := "loop.example/g00527/laws.FnExactParityOf", spec := "fnExactParityOf", apart := false, narrowed := true }
def FnExactParityOfUptoSaid : Prop := fnExactParityOfUptoRow.holds Try.pinned (OpenSpec.upto fnExactParityOfSpec)

/-- 'laws.FnExactWithParity', WHERE WHAT IT READS IS OF BULK AT MOST 1048576: true; the input reads as it did. -/
def fnExactWithParityUptoRow : OpenClaim := { program := "ytijojdempijhbai", sum := "0a20d21bffd071c9cff8bc709f3bc510f4757e5b07e4146bb4c4f6e3d6b45a84", func := "loop.example/g00527/laws.FnExactWithParity", spec := "fnExactWithParity", unfollowed := true, recurses := true, apart := false, narrowed := true }
def FnExactWithParityUptoSaid : Prop := fnExactWithParityUptoRow.holds Try.pinned (OpenSpec.upto fnExactWithParitySpec)

/-- 'laws.FnExactMendPiece', WHERE WHAT IT READS IS OF BULK AT MOST 1048576: true; the input reads as it did. -/
def fnExactMendPieceUptoRow : OpenClaim := { program := "ytijojdempijhbai", sum := "0a20d21bffd071c9cff8bc709f3bc510f4757e5b07e4146bb4c4f6e3d6b45a84", func := "loop.example/g00527/laws.FnExactMendPiece", spec := "fnExactMendPiece", apart := false, narrowed := true }
def FnExactMendPieceUptoSaid : Prop := fnExactMendPieceUptoRow.holds Try.pinned (OpenSpec.upto fnExactMendPieceSpec)

end Rows
end Go.Proofs.Ytijojdempijhbai
