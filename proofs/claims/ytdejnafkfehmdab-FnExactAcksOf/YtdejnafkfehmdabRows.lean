/-
  No cell of these rows narrows 'for every input' (looked for: loops, veiled, ifaces, maps, wideKeys, modest, calm, conditions, laid).
  DERIVED. THE GIVEN ROWS OF THIS SEAT. 4 by the template 'for every input the law returns true; each argument reads behind the call as it read before'; 0 by the template 'total and deterministic' (their statements: YtdejnafkfehmdabTotals.lean).
  GIVEN WITH THE SEED: the statements are not yours to turn. If you find one false, say at which input.
  Laid BY PROGRAM, IN A SANDBOX (cutbox-rows.mjs): the forced cells as the released guide's own fill.sh prints them over the translation 7ff38d6d9c4deb67… (all of the seat's roots in one cut). By AI agents, Wed Nov 11 2026. No macro, syntax, notation, axiom, sorry.
-/
import Derived.Test.YtdejnafkfehmdabChecked
import GoSem.Claim
import GoSem.ClaimJoined
import GoSem.ClaimMapViews
import Derived.JoinedTies
import Derived.KernelRfl
namespace Go.Proofs.Ytdejnafkfehmdab
/- THE CELL 'sum', in the pinned program and in every row, IS THE sha256 OF THE DUMP (.gsa) THAT YtdejnafkfehmdabProg.lean LOADS. Nothing in Lean hashes anything: it is a label: what it is worth is what the hold of that sum in a sandbox is worth. -/
noncomputable def Try.pinned : Pinned := { name := "ytdejnafkfehmdab", sum := "7ff38d6d9c4deb674aa3e48d90cf7296030025bf1bb81e1f01286f80c4141fd7", checked := Try.checked }
namespace Rows
def none {H : Type} : Left H := { results := [], args := [] }

/-- 'laws.FnExactOpenIn': WHATEVER THE INPUT: true; the input reads as it did. -/
def fnExactOpenInSpec : ChangeSpec := { name := "fnExactOpenIn", fn := fun _ => fun
  | [d] => { results := [.lit (.bool true)], args := [d] }
  | _ => none }
def fnExactOpenInRow : OpenClaim := { program := "ytdejnafkfehmdab", sum := "7ff38d6d9c4deb674aa3e48d90cf7296030025bf1bb81e1f01286f80c4141fd7", func := "loop.example/g00527/laws.FnExactOpenIn", spec := "fnExactOpenIn", unfollowed := true, recurses := true, apart := false }
def FnExactOpenInSaid : Prop := fnExactOpenInRow.holds Try.pinned (OpenSpec.ofChange fnExactOpenInSpec)

/-- ITS FALSE NEIGHBOUR: 'it returns false'. Refute it at one input. -/
def fnExactOpenInWrong : ChangeSpec := { name := "fnExactOpenIn", fn := fun _ => fun
  | [d] => { results := [.lit (.bool false)], args := [d] }
  | _ => none }
def FnExactOpenInWrongFalsely : Prop := fnExactOpenInRow.holds Try.pinned (OpenSpec.ofChange fnExactOpenInWrong)

/-- 'laws.FnExactAcksOf': WHATEVER THE INPUT: true; the input reads as it did. -/
def fnExactAcksOfSpec : ChangeSpec := { name := "fnExactAcksOf", fn := fun _ => fun
  | [d] => { results := [.lit (.bool true)], args := [d] }
  | _ => none }
def fnExactAcksOfRow : OpenClaim := { program := "ytdejnafkfehmdab", sum := "7ff38d6d9c4deb674aa3e48d90cf7296030025bf1bb81e1f01286f80c4141fd7", func := "loop.example/g00527/laws.FnExactAcksOf", spec := "fnExactAcksOf", recurses := true, apart := false }
def FnExactAcksOfSaid : Prop := fnExactAcksOfRow.holds Try.pinned (OpenSpec.ofChange fnExactAcksOfSpec)

/-- ITS FALSE NEIGHBOUR: 'it returns false'. Refute it at one input. -/
def fnExactAcksOfWrong : ChangeSpec := { name := "fnExactAcksOf", fn := fun _ => fun
  | [d] => { results := [.lit (.bool false)], args := [d] }
  | _ => none }
def FnExactAcksOfWrongFalsely : Prop := fnExactAcksOfRow.holds Try.pinned (OpenSpec.ofChange fnExactAcksOfWrong)

/-- 'laws.FnExactLateBy': WHATEVER THE INPUT: true; the input reads as it did. -/
def fnExactLateBySpec : ChangeSpec := { name := "fnExactLateBy", fn := fun _ => fun
  | [d] => { results := [.lit (.bool true)], args := [d] }
  | _ => none }
def fnExactLateByRow : OpenClaim := { program := "ytdejnafkfehmdab", sum := "7ff38d6d9c4deb674aa3e48d90cf7296030025bf1bb81e1f01286f80c4141fd7", func := "loop.example/g00527/laws.FnExactLateBy", spec := "fnExactLateBy", recurses := true, apart := false }
def FnExactLateBySaid : Prop := fnExactLateByRow.holds Try.pinned (OpenSpec.ofChange fnExactLateBySpec)

/-- ITS FALSE NEIGHBOUR: 'it returns false'. Refute it at one input. -/
def fnExactLateByWrong : ChangeSpec := { name := "fnExactLateBy", fn := fun _ => fun
  | [d] => { results := [.lit (.bool false)], args := [d] }
  | _ => none }
def FnExactLateByWrongFalsely : Prop := fnExactLateByRow.holds Try.pinned (OpenSpec.ofChange fnExactLateByWrong)

/-- 'laws.FnExactPlayHeard': WHATEVER THE INPUT: true; the input reads as it did. -/
def fnExactPlayHeardSpec : ChangeSpec := { name := "fnExactPlayHeard", fn := fun _ => fun
  | [d1, d2] => { results := [.lit (.bool true)], args := [d1, d2] }
  | _ => none }
def fnExactPlayHeardRow : OpenClaim := { program := "ytdejnafkfehmdab", sum := "7ff38d6d9c4deb674aa3e48d90cf7296030025bf1bb81e1f01286f80c4141fd7", func := "loop.example/g00527/laws.FnExactPlayHeard", spec := "fnExactPlayHeard", unfollowed := true, recurses := true, apart := false }
def FnExactPlayHeardSaid : Prop := fnExactPlayHeardRow.holds Try.pinned (OpenSpec.ofChange fnExactPlayHeardSpec)

/-- ITS FALSE NEIGHBOUR: 'it returns false'. Refute it at one input. -/
def fnExactPlayHeardWrong : ChangeSpec := { name := "fnExactPlayHeard", fn := fun _ => fun
  | [d1, d2] => { results := [.lit (.bool false)], args := [d1, d2] }
  | _ => none }
def FnExactPlayHeardWrongFalsely : Prop := fnExactPlayHeardRow.holds Try.pinned (OpenSpec.ofChange fnExactPlayHeardWrong)

/- THE SECOND FORM. 'bulk': how many values and letters a reading holds, each counted each time it is reached (what is shared counts as often as it is met; a slice's spare places count too). A statement '..UptoSaid' is the law's where the arguments, and the package variables that the reading takes, are together of bulk at most 1048576: NARROWER than '..Said'. Prove '..Said' where nothing that the law and all that it calls make is longer than what came in: it says more and counts as full. Else prove '..UptoSaid'. A law counts once. -/
mutual
def uptoBulk {H : Type} : DataW H → Nat
  | .lit (.string bytes) => bytes.length + 1
  | .lit _ => 1
  | .nil => 1
  | .ptr d => uptoBulk d + 1
  | .slice elems spare => uptoBulkAll elems + uptoBulkAll spare + 1
  | .agg parts => uptoBulkAll parts + 1
  | .iface _ d => uptoBulk d + 1
  | .map entries => uptoBulkEntries entries + 1
  | .held _ => 1
def uptoBulkAll {H : Type} : List (DataW H) → Nat
  | [] => 0
  | d :: r => uptoBulk d + uptoBulkAll r
def uptoBulkEntries {H : Type} : List (Lit × DataW H) → Nat
  | [] => 0
  | x :: r => uptoBulkEntry x + uptoBulkEntries r
def uptoBulkEntry {H : Type} : Lit × DataW H → Nat
  | (.string bytes, d) => bytes.length + uptoBulk d + 1
  | (_, d) => uptoBulk d + 1
 end
def uptoSmall : (H : Type) → List (DataW H) → Bool := fun _ ds => decide (uptoBulkAll ds ≤ 1048576)
def OpenSpec.upto (s : _root_.Go.ChangeSpec) : _root_.Go.OpenSpec := { _root_.Go.OpenSpec.ofChange s with cond := some uptoSmall }

/-- 'laws.FnExactOpenIn', WHERE WHAT IT READS IS OF BULK AT MOST 1048576: true; the input reads as it did. -/
def fnExactOpenInUptoRow : OpenClaim := { program := "ytdejnafkfehmdab", sum := "7ff38d6d9c4deb674aa3e48d90cf7296030025bf1bb81e1f01286f80c4141fd7", func := "loop.example/g00527/laws.FnExactOpenIn", spec := "fnExactOpenIn", unfollowed := true, recurses := true, apart := false, narrowed := true }
def FnExactOpenInUptoSaid : Prop := fnExactOpenInUptoRow.holds Try.pinned (OpenSpec.upto fnExactOpenInSpec)

/-- 'laws.FnExactAcksOf', WHERE WHAT IT READS IS OF BULK AT MOST 1048576: true; the input reads as it did. -/
def fnExactAcksOfUptoRow : OpenClaim := { program := "ytdejnafkfehmdab", sum := "7ff38d6d9c4deb674aa3e48d90cf7296030025bf1bb81e1f01286f80c4141fd7", func := "loop.example/g00527/laws.FnExactAcksOf", spec := "fnExactAcksOf", recurses := true, apart := false, narrowed := true }
def FnExactAcksOfUptoSaid : Prop := fnExactAcksOfUptoRow.holds Try.pinned (OpenSpec.upto fnExactAcksOfSpec)

/-- 'laws.FnExactLateBy', WHERE WHAT IT READS IS OF BULK AT MOST 1048576: true; the input reads as it did. -/
def fnExactLateByUptoRow : OpenClaim := { program := "ytdejnafkfehmdab", sum := "7ff38d6d9c4deb674aa3e48d90cf7296030025bf1bb81e1f01286f80c4141fd7", func := "loop.example/g00527/laws.FnExactLateBy", spec := "fnExactLateBy", recurses := true, apart := false, narrowed := true }
def FnExactLateByUptoSaid : Prop := fnExactLateByUptoRow.holds Try.pinned (OpenSpec.upto fnExactLateBySpec)

/-- 'laws.FnExactPlayHeard', WHERE WHAT IT READS IS OF BULK AT MOST 1048576: true; the input reads as it did. -/
def fnExactPlayHeardUptoRow : OpenClaim := { program := "ytdejnafkfehmdab", sum := "7ff38d6d9c4deb674aa3e48d90cf7296030025bf1bb81e1f01286f80c4141fd7", func := "loop.example/g00527/laws.FnExactPlayHeard", spec := "fnExactPlayHeard", unfollowed := true, recurses := true, apart := false, narrowed := true }
def FnExactPlayHeardUptoSaid : Prop := fnExactPlayHeardUptoRow.holds Try.pinned (OpenSpec.upto fnExactPlayHeardSpec)

end Rows
end Go.Proofs.Ytdejnafkfehmdab
