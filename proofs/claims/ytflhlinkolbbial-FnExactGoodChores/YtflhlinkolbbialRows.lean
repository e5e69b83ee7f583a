/-
  No cell of these rows narrows 'for every input' (looked for: loops, veiled, ifaces, maps, wideKeys, modest, calm, conditions, laid).
  DERIVED. THE GIVEN ROWS OF THIS SEAT. 4 by the template 'for every input the law returns true; each argument reads behind the call as it read before'; 0 by the template 'total and deterministic' (their statements: YtflhlinkolbbialTotals.lean).
  GIVEN WITH THE SEED: the statements are not yours to turn. If you find one false, say at which input.
  Laid BY PROGRAM, IN A SANDBOX (cutbox-rows.mjs): the forced cells as the released guide's own fill.sh prints them over the translation 9c56dd0ecdc394b6… (all of the seat's roots in one cut). By AI agents, Wed Nov 11 2026. No macro, syntax, notation, axiom, sorry.
-/
import Derived.Test.YtflhlinkolbbialChecked
import GoSem.Claim
import GoSem.ClaimJoined
import GoSem.ClaimMapViews
import Derived.JoinedTies
import Derived.KernelRfl
namespace Go.Proofs.Ytflhlinkolbbial
/- THE CELL 'sum', in the pinned program and in every row, IS THE sha256 OF THE DUMP (.gsa) THAT YtflhlinkolbbialProg.lean LOADS. Nothing in Lean hashes anything: it is a label: what it is worth is what the hold of that sum in a sandbox is worth. -/
noncomputable def Try.pinned : Pinned := { name := "ytflhlinkolbbial", sum := "9c56dd0ecdc394b65c4f1f5c4d1970e663c0657d4e2d3619e120c26fc3c82f85", checked := Try.checked }
namespace Rows
def none {H : Type} : Left H := { results := [], args := [] }

/-- 'laws.FnExactGoodStore': WHATEVER THE INPUT: true; the input reads as it did. -/
def fnExactGoodStoreSpec : ChangeSpec := { name := "fnExactGoodStore", fn := fun _ => fun
  | [d] => { results := [.lit (.bool true)], args := [d] }
  | _ => none }
def fnExactGoodStoreRow : OpenClaim := { program := "ytflhlinkolbbial", sum := "9c56dd0ecdc394b65c4f1f5c4d1970e663c0657d4e2d3619e120c26fc3c82f85", func := "loop.example/g00527/laws.FnExactGoodStore", spec := "fnExactGoodStore", apart := false }
def FnExactGoodStoreSaid : Prop := fnExactGoodStoreRow.holds Try.pinned (OpenSpec.ofChange fnExactGoodStoreSpec)

/-- ITS FALSE NEIGHBOUR: 'it returns false'. Refute it at one input. -/
def fnExactGoodStoreWrong : ChangeSpec := { name := "fnExactGoodStore", fn := fun _ => fun
  | [d] => { results := [.lit (.bool false)], args := [d] }
  | _ => none }
def FnExactGoodStoreWrongFalsely : Prop := fnExactGoodStoreRow.holds Try.pinned (OpenSpec.ofChange fnExactGoodStoreWrong)

/-- 'laws.FnExactGoodChores': WHATEVER THE INPUT: true; the input reads as it did. -/
def fnExactGoodChoresSpec : ChangeSpec := { name := "fnExactGoodChores", fn := fun _ => fun
  | [d1, d2] => { results := [.lit (.bool true)], args := [d1, d2] }
  | _ => none }
def fnExactGoodChoresRow : OpenClaim := { program := "ytflhlinkolbbial", sum := "9c56dd0ecdc394b65c4f1f5c4d1970e663c0657d4e2d3619e120c26fc3c82f85", func := "loop.example/g00527/laws.FnExactGoodChores", spec := "fnExactGoodChores", unfollowed := true, recurses := true, apart := false }
def FnExactGoodChoresSaid : Prop := fnExactGoodChoresRow.holds Try.pinned (OpenSpec.ofChange fnExactGoodChoresSpec)

/-- ITS FALSE NEIGHBOUR: 'it returns false'. Refute it at one input. -/
def fnExactGoodChoresWrong : ChangeSpec := { name := "fnExactGoodChores", fn := fun _ => fun
  | [d1, d2] => { results := [.lit (.bool false)], args := [d1, d2] }
  | _ => none }
def FnExactGoodChoresWrongFalsely : Prop := fnExactGoodChoresRow.holds Try.pinned (OpenSpec.ofChange fnExactGoodChoresWrong)

/-- 'laws.FnExactGiveInOrder': WHATEVER THE INPUT: true; the input reads as it did. -/
def fnExactGiveInOrderSpec : ChangeSpec := { name := "fnExactGiveInOrder", fn := fun _ => fun
  | [d1, d2] => { results := [.lit (.bool true)], args := [d1, d2] }
  | _ => none }
def fnExactGiveInOrderRow : OpenClaim := { program := "ytflhlinkolbbial", sum := "9c56dd0ecdc394b65c4f1f5c4d1970e663c0657d4e2d3619e120c26fc3c82f85", func := "loop.example/g00527/laws.FnExactGiveInOrder", spec := "fnExactGiveInOrder", unfollowed := true, recurses := true, apart := false }
def FnExactGiveInOrderSaid : Prop := fnExactGiveInOrderRow.holds Try.pinned (OpenSpec.ofChange fnExactGiveInOrderSpec)

/-- ITS FALSE NEIGHBOUR: 'it returns false'. Refute it at one input. -/
def fnExactGiveInOrderWrong : ChangeSpec := { name := "fnExactGiveInOrder", fn := fun _ => fun
  | [d1, d2] => { results := [.lit (.bool false)], args := [d1, d2] }
  | _ => none }
def FnExactGiveInOrderWrongFalsely : Prop := fnExactGiveInOrderRow.holds Try.pinned (OpenSpec.ofChange fnExactGiveInOrderWrong)

/-- 'laws.FnExactGiveLongest': WHATEVER THE INPUT: true; the input reads as it did. -/
def fnExactGiveLongestSpec : ChangeSpec := { name := "fnExactGiveLongest", fn := fun _ => fun
  | [d1, d2] => { results := [.lit (.bool true)], args := [d1, d2] }
  | _ => none }
def fnExactGiveLongestRow : OpenClaim := { program := "ytflhlinkolbbial", sum := "9c56dd0ecdc394b65c4f1f5c4d1970e663c0657d4e2d3619e120c26fc3c82f85", func := "loop.example/g00527/laws.FnExactGiveLongest", spec := "fnExactGiveLongest", unfollowed := true, recurses := true, apart := false }
def FnExactGiveLongestSaid : Prop := fnExactGiveLongestRow.holds Try.pinned (OpenSpec.ofChange fnExactGiveLongestSpec)

/-- ITS FALSE NEIGHBOUR: 'it returns false'. Refute it at one input. -/
def fnExactGiveLongestWrong : ChangeSpec := { name := "fnExactGiveLongest", fn := fun _ => fun
  | [d1, d2] => { results := [.lit (.bool false)], args := [d1, d2] }
  | _ => none }
def FnExactGiveLongestWrongFalsely : Prop := fnExactGiveLongestRow.holds Try.pinned (OpenSpec.ofChange fnExactGiveLongestWrong)

/- THE SECOND FORM. 'bulk': how many values and letters a reading holds, each counted each time it is reached (what is shared counts as often as it is met; a slice's spare places count too). A statement '..UptoSaid' is the law's where the arguments, and the package variables that the reading takes, are together of bulk at most 1048576: NARROWER than '..Said'. Prove '..Said' where nothing that the law and all that it calls make is longer than what came in: it says more and counts as full. Else prove '..UptoSaid'. A law counts once. -/
mutual
def uptoBulk {H : Type} : DataW H → Nat
  | .lit (.string bytes) => bytes.length + 1
  | .lit _ => 1
  | .nil => 1
  | .ptr d => uptoBulk d + 1
  | .slice elems spare => uptoBulkAll elems + uptoBulkAll spare + 1
  | .agg parts => uptoBulkAll parts + 1
  | .iface _ d => uptoBulk d + 1
  | .map entries => uptoBulkEntries entries + 1
  | .held _ => 1
def uptoBulkAll {H : Type} : List (DataW H) → Nat
  | [] => 0
  | d :: r => uptoBulk d + uptoBulkAll r
def uptoBulkEntries {H : Type} : List (Lit × DataW H) → Nat
  | [] => 0
  | x :: r => uptoBulkEntry x + uptoBulkEntries r
def uptoBulkEntry {H : Type} : Lit × DataW H → Nat
  | (.string bytes, d) => bytes.length + uptoBulk d + 1
  | (_, d) => uptoBulk d + 1
 end
def uptoSmall : (H : Type) → List (DataW H) → Bool := fun _ ds => decide (uptoBulkAll ds ≤ 1048576)
def OpenSpec.upto (s : _root_.Go.ChangeSpec) : _root_.Go.OpenSpec := { _root_.Go.OpenSpec.ofChange s with cond := some uptoSmall }

/-- 'laws.FnExactGoodStore', WHERE WHAT IT READS IS OF BULK AT MOST 1048576: true; the input reads as it did. -/
def fnExactGoodStoreUptoRow : OpenClaim := { program := "ytflhlinkolbbial", sum := "9c56dd0ecdc394b65c4f1f5c4d1970e663c0657d4e2d3619e120c26fc3c82f85", func := "loop.example/g00527/laws.FnExactGoodStore", spec := "fnExactGoodStore", apart := false, narrowed := true }
def FnExactGoodStoreUptoSaid : Prop := fnExactGoodStoreUptoRow.holds Try.pinned (OpenSpec.upto fnExactGoodStoreSpec)

/-- 'laws.FnExactGoodChores', WHERE WHAT IT READS IS OF BULK AT MOST 1048576: true; the input reads as it did. -/
def fnExactGoodChoresUptoRow : OpenClaim := { program := "ytflhlinkolbbial", sum := "9c56dd0ecdc394b65c4f1f5c4d1970e663c0657d4e2d3619e120c26fc3c82f85", func := "loop.example/g00527/laws.FnExactGoodChores", spec := "fnExactGoodChores", unfollowed := true, recurses := true, apart := false, narrowed := true }
def FnExactGoodChoresUptoSaid : Prop := fnExactGoodChoresUptoRow.holds Try.pinned (OpenSpec.upto fnExactGoodChoresSpec)

/-- 'laws.FnExactGiveInOrder', WHERE WHAT IT READS IS OF BULK AT MOST 1048576: true; the input reads as it did. -/
def fnExactGiveInOrderUptoRow : OpenClaim := { program := "ytflhlinkolbbial", sum := "9c56dd0ecdc394b65c4f1f5c4d1970e663c0657d4e2d3619e120c26fc3c82f85", func := "loop.example/g00527/laws.FnExactGiveInOrder", spec := "fnExactGiveInOrder", unfollowed := true, recurses := true, apart := false, narrowed := true }
def FnExactGiveInOrderUptoSaid : Prop := fnExactGiveInOrderUptoRow.holds Try.pinned (OpenSpec.upto fnExactGiveInOrderSpec)

/-- 'laws.FnExactGiveLongest', WHERE WHAT IT READS IS OF BULK AT MOST 1048576: true; the input reads as it did. -/
def fnExactGiveLongestUptoRow : OpenClaim := { program := "ytflhlinkolbbial", sum := "9c56dd0ecdc394b65c4f1f5c4d1970e663c0657d4e2d3619e120c26fc3c82f85", func := "loop.example/g00527/laws.FnExactGiveLongest", spec := "fnExactGiveLongest", unfollowed := true, recurses := true, apart := false, narrowed := true }
def FnExactGiveLongestUptoSaid : Prop := fnExactGiveLongestUptoRow.holds Try.pinned (OpenSpec.upto fnExactGiveLongestSpec)

end Rows
end Go.Proofs.Ytflhlinkolbbial
