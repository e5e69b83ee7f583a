/-
  No cell of these rows narrows 'for every input' (looked for: loops, veiled, ifaces, maps, wideKeys, modest, calm, conditions, laid).
  DERIVED. THE GIVEN ROWS OF THIS SEAT. 6 by the template 'for every input the law returns true; each argument reads behind the call as it read before'; 0 by the template 'total and deterministic' (their statements: YteeaebelknpdjbbTotals.lean).
  GIVEN WITH THE SEED: the statements are not yours to turn. If you find one false, say at which input.
  Laid BY PROGRAM, IN A SANDBOX (cutbox-rows.mjs): the forced cells as the released guide's own fill.sh prints them over the translation dc7c654a2b5c29e9… (all of the seat's roots in one cut). By AI agents, Wed Nov 11 2026. No macro, syntax, notation, axiom, sorry.
-/
import Derived.Test.YteeaebelknpdjbbChecked
import GoSem.Claim
import GoSem.ClaimJoined
import GoSem.ClaimMapViews
import Derived.JoinedTies
import Derived.KernelRfl
namespace Go.Proofs.Yteeaebelknpdjbb
/- THE CELL 'sum', in the pinned program and in every row, IS THE sha256 OF THE DUMP (.gsa) THAT YteeaebelknpdjbbProg.lean LOADS. Nothing in Lean hashes anything: it is a label: what it is worth is what the hold of that sum in a sandbox is worth. -/
noncomputable def Try.pinned : Pinned := { name := "yteeaebelknpdjbb", sum := "dc7c654a2b5c29e9fdc0560fc67a72fc9fd703abdeb42f5f2ea50f4a9822c29d", checked := Try.checked }
namespace Rows
def none {H : Type} : Left H := { results := [], args := [] }

/-- 'laws.FnExactNewGuess': WHATEVER THE INPUT: true; the input reads as it did. -/
def fnExactNewGuessSpec : ChangeSpec := { name := "fnExactNewGuess", fn := fun _ => fun
  | [d] => { results := [.lit (.bool true)], args := [d] }
  | _ => none }
def fnExactNewGuessRow : OpenClaim := { program := "yteeaebelknpdjbb", sum := "dc7c654a2b5c29e9fdc0560fc67a72fc9fd703abdeb42f5f2ea50f4a9822c29d", func := "loop.example/g00527/laws.FnExactNewGuess", spec := "fnExactNewGuess", apart := false }
def FnExactNewGuessSaid : Prop := fnExactNewGuessRow.holds Try.pinned (OpenSpec.ofChange fnExactNewGuessSpec)

/-- ITS FALSE NEIGHBOUR: 'it returns false'. Refute it at one input. -/
def fnExactNewGuessWrong : ChangeSpec := { name := "fnExactNewGuess", fn := fun _ => fun
  | [d] => { results := [.lit (.bool false)], args := [d] }
  | _ => none }
def FnExactNewGuessWrongFalsely : Prop := fnExactNewGuessRow.holds Try.pinned (OpenSpec.ofChange fnExactNewGuessWrong)

/-- 'laws.FnExactGoodGuess': WHATEVER THE INPUT: true; the input reads as it did. -/
def fnExactGoodGuessSpec : ChangeSpec := { name := "fnExactGoodGuess", fn := fun _ => fun
  | [d] => { results := [.lit (.bool true)], args := [d] }
  | _ => none }
def fnExactGoodGuessRow : OpenClaim := { program := "yteeaebelknpdjbb", sum := "dc7c654a2b5c29e9fdc0560fc67a72fc9fd703abdeb42f5f2ea50f4a9822c29d", func := "loop.example/g00527/laws.FnExactGoodGuess", spec := "fnExactGoodGuess", apart := false }
def FnExactGoodGuessSaid : Prop := fnExactGoodGuessRow.holds Try.pinned (OpenSpec.ofChange fnExactGoodGuessSpec)

/-- ITS FALSE NEIGHBOUR: 'it returns false'. Refute it at one input. -/
def fnExactGoodGuessWrong : ChangeSpec := { name := "fnExactGoodGuess", fn := fun _ => fun
  | [d] => { results := [.lit (.bool false)], args := [d] }
  | _ => none }
def FnExactGoodGuessWrongFalsely : Prop := fnExactGoodGuessRow.holds Try.pinned (OpenSpec.ofChange fnExactGoodGuessWrong)

/-- 'laws.FnExactSeeGuess': WHATEVER THE INPUT: true; the input reads as it did. -/
def fnExactSeeGuessSpec : ChangeSpec := { name := "fnExactSeeGuess", fn := fun _ => fun
  | [d1, d2] => { results := [.lit (.bool true)], args := [d1, d2] }
  | _ => none }
def fnExactSeeGuessRow : OpenClaim := { program := "yteeaebelknpdjbb", sum := "dc7c654a2b5c29e9fdc0560fc67a72fc9fd703abdeb42f5f2ea50f4a9822c29d", func := "loop.example/g00527/laws.FnExactSeeGuess", spec := "fnExactSeeGuess", inPlace := ["math.archFloor", "math.Float64bits", "math.Float64frombits", "math.archTrunc"], apart := false }
def FnExactSeeGuessSaid : Prop := fnExactSeeGuessRow.holds Try.pinned (OpenSpec.ofChange fnExactSeeGuessSpec)

/-- ITS FALSE NEIGHBOUR: 'it returns false'. Refute it at one input. -/
def fnExactSeeGuessWrong : ChangeSpec := { name := "fnExactSeeGuess", fn := fun _ => fun
  | [d1, d2] => { results := [.lit (.bool false)], args := [d1, d2] }
  | _ => none }
def FnExactSeeGuessWrongFalsely : Prop := fnExactSeeGuessRow.holds Try.pinned (OpenSpec.ofChange fnExactSeeGuessWrong)

/-- 'laws.FnExactWaitOf': WHATEVER THE INPUT: true; the input reads as it did. -/
def fnExactWaitOfSpec : ChangeSpec := { name := "fnExactWaitOf", fn := fun _ => fun
  | [d] => { results := [.lit (.bool true)], args := [d] }
  | _ => none }
def fnExactWaitOfRow : OpenClaim := { program := "yteeaebelknpdjbb", sum := "dc7c654a2b5c29e9fdc0560fc67a72fc9fd703abdeb42f5f2ea50f4a9822c29d", func := "loop.example/g00527/laws.FnExactWaitOf", spec := "fnExactWaitOf", inPlace := ["math.archFloor", "math.Float64bits", "math.Float64frombits", "math.archTrunc"], apart := false }
def FnExactWaitOfSaid : Prop := fnExactWaitOfRow.holds Try.pinned (OpenSpec.ofChange fnExactWaitOfSpec)

/-- ITS FALSE NEIGHBOUR: 'it returns false'. Refute it at one input. -/
def fnExactWaitOfWrong : ChangeSpec := { name := "fnExactWaitOf", fn := fun _ => fun
  | [d] => { results := [.lit (.bool false)], args := [d] }
  | _ => none }
def FnExactWaitOfWrongFalsely : Prop := fnExactWaitOfRow.holds Try.pinned (OpenSpec.ofChange fnExactWaitOfWrong)

/-- 'laws.FnExactSeeAll': WHATEVER THE INPUT: true; the input reads as it did. -/
def fnExactSeeAllSpec : ChangeSpec := { name := "fnExactSeeAll", fn := fun _ => fun
  | [d1, d2] => { results := [.lit (.bool true)], args := [d1, d2] }
  | _ => none }
def fnExactSeeAllRow : OpenClaim := { program := "yteeaebelknpdjbb", sum := "dc7c654a2b5c29e9fdc0560fc67a72fc9fd703abdeb42f5f2ea50f4a9822c29d", func := "loop.example/g00527/laws.FnExactSeeAll", spec := "fnExactSeeAll", inPlace := ["math.archFloor", "math.Float64bits", "math.Float64frombits", "math.archTrunc"], unfollowed := true, recurses := true, apart := false }
def FnExactSeeAllSaid : Prop := fnExactSeeAllRow.holds Try.pinned (OpenSpec.ofChange fnExactSeeAllSpec)

/-- ITS FALSE NEIGHBOUR: 'it returns false'. Refute it at one input. -/
def fnExactSeeAllWrong : ChangeSpec := { name := "fnExactSeeAll", fn := fun _ => fun
  | [d1, d2] => { results := [.lit (.bool false)], args := [d1, d2] }
  | _ => none }
def FnExactSeeAllWrongFalsely : Prop := fnExactSeeAllRow.holds Try.pinned (OpenSpec.ofChange fnExactSeeAllWrong)

/-- 'laws.FnExactRangeOf': WHATEVER THE INPUT: true; the input reads as it did. -/
def fnExactRangeOfSpec : ChangeSpec := { name := "fnExactRangeOf", fn := fun _ => fun
  | [d] => { results := [.lit (.bool true)], args := [d] }
  | _ => none }
def fnExactRangeOfRow : OpenClaim := { program := "yteeaebelknpdjbb", sum := "dc7c654a2b5c29e9fdc0560fc67a72fc9fd703abdeb42f5f2ea50f4a9822c29d", func := "loop.example/g00527/laws.FnExactRangeOf", spec := "fnExactRangeOf", unfollowed := true, recurses := true, apart := false }
def FnExactRangeOfSaid : Prop := fnExactRangeOfRow.holds Try.pinned (OpenSpec.ofChange fnExactRangeOfSpec)

/-- ITS FALSE NEIGHBOUR: 'it returns false'. Refute it at one input. -/
def fnExactRangeOfWrong : ChangeSpec := { name := "fnExactRangeOf", fn := fun _ => fun
  | [d] => { results := [.lit (.bool false)], args := [d] }
  | _ => none }
def FnExactRangeOfWrongFalsely : Prop := fnExactRangeOfRow.holds Try.pinned (OpenSpec.ofChange fnExactRangeOfWrong)

/- THE SECOND FORM. 'bulk': how many values and letters a reading holds, each counted each time it is reached (what is shared counts as often as it is met; a slice's spare places count too). A statement '..UptoSaid' is the law's where the arguments, and the package variables that the reading takes, are together of bulk at most 1048576: NARROWER than '..Said'. Prove '..Said' where nothing that the law and all that it calls make is longer than what came in: it says more and counts as full. Else prove '..UptoSaid'. A law counts once. -/
mutual
def uptoBulk {H : Type} : DataW H → Nat
  | .lit (.string bytes) => bytes.length + 1
  | .lit _ => 1
  | .nil => 1
  | .ptr d => uptoBulk d + 1
  | .slice elems spare => uptoBulkAll elems + uptoBulkAll spare + 1
  | .agg parts => uptoBulkAll parts + 1
  | .iface _ d => uptoBulk d + 1
  | .map entries => uptoBulkEntries entries + 1
  | .held _ => 1
def uptoBulkAll {H : Type} : List (DataW H) → Nat
  | [] => 0
  | d :: r => uptoBulk d + uptoBulkAll r
def uptoBulkEntries {H : Type} : List (Lit × DataW H) → Nat
  | [] => 0
  | x :: r => uptoBulkEntry x + uptoBulkEntries r
def uptoBulkEntry {H : Type} : Lit × DataW H → Nat
  | (.string bytes, d) => bytes.length + uptoBulk d + 1
  | (_, d) => uptoBulk d + 1
 end
def uptoSmall : (H : Type) → List (DataW H) → Bool := fun _ ds => decide (uptoBulkAll ds ≤ 1048576)
def OpenSpec.upto (s : _root_.Go.ChangeSpec) : _root_.Go.OpenSpec := { _root_.Go.OpenSpec.ofChange s with cond := some uptoSmall }

/-- 'laws.FnExactNewGuess', WHERE WHAT IT READS IS OF BULK AT MOST 1048576: true; the input reads as it did. -/
def fnExactNewGuessUptoRow : OpenClaim := { program := "yteeaebelknpdjbb", sum := "dc7c654a2b5c29e9fdc0560fc67a72fc9fd703abdeb42f5f2ea50f4a9822c29d", func := "loop.example/g00527/laws.FnExactNewGuess", spec := "fnExactNewGuess", apart := false, narrowed := true }
def FnExactNewGuessUptoSaid : Prop := fnExactNewGuessUptoRow.holds Try.pinned (OpenSpec.upto fnExactNewGuessSpec)

/-- 'laws.FnExactGoodGuess', WHERE WHAT IT READS IS OF BULK AT MOST 1048576: true; the input reads as it did. -/
def fnExactGoodGuessUptoRow : OpenClaim := { program := "yteeaebelknpdjbb", sum := "dc7c654a2b5c29e9fdc0560fc67a72fc9fd703abdeb42f5f2ea50f4a9822c29d", func := "loop.example/g00527/laws.FnExactGoodGuess", spec := "fnExactGoodGuess", apart := false, narrowed := true }
def FnExactGoodGuessUptoSaid : Prop := fnExactGoodGuessUptoRow.holds Try.pinned (OpenSpec.upto fnExactGoodGuessSpec)

/-- 'laws.FnExactSeeGuess', WHERE WHAT IT READS IS OF BULK AT MOST 1048576: true; the input reads as it did. -/
def fnExactSeeGuessUptoRow : OpenClaim := { program := "yteeaebelknpdjbb", sum := "dc7c654a2b5c29e9fdc0560fc67a72fc9fd703abdeb42f5f2ea50f4a9822c29d", func := "loop.example/g00527/laws.FnExactSeeGuess", spec := "fnExactSeeGuess", inPlace := ["math.archFloor", "math.Float64bits", "math.Float64frombits", "math.archTrunc"], apart := false, narrowed := true }
def FnExactSeeGuessUptoSaid : Prop := fnExactSeeGuessUptoRow.holds Try.pinned (OpenSpec.upto fnExactSeeGuessSpec)

/-- 'laws.FnExactWaitOf', WHERE WHAT IT READS IS OF BULK AT MOST 1048576: true; the input reads as it did. -/
def fnExactWaitOfUptoRow : OpenClaim := { program := "yteeaebelknpdjbb", sum := "dc7c654a2b5c29e9fdc0560fc67a72fc9fd703abdeb42f5f2ea50f4a9822c29d", func := "loop.example/g00527/laws.FnExactWaitOf", spec := "fnExactWaitOf", inPlace := ["math.archFloor", "math.Float64bits", "math.Float64frombits", "math.archTrunc"], apart := false, narrowed := true }
def FnExactWaitOfUptoSaid : Prop := fnExactWaitOfUptoRow.holds Try.pinned (OpenSpec.upto fnExactWaitOfSpec)

/-- 'laws.FnExactSeeAll', WHERE WHAT IT READS IS OF BULK AT MOST 1048576: true; the input reads as it did. -/
def fnExactSeeAllUptoRow : OpenClaim := { program := "yteeaebelknpdjbb", sum := "dc7c654a2b5c29e9fdc0560fc67a72fc9fd703abdeb42f5f2ea50f4a9822c29d", func := "loop.example/g00527/laws.FnExactSeeAll", spec := "fnExactSeeAll", inPlace := ["math.archFloor", "math.Float64bits", "math.Float64frombits", "math.archTrunc"], unfollowed := true, recurses := true, apart := false, narrowed := true }
def FnExactSeeAllUptoSaid : Prop := fnExactSeeAllUptoRow.holds Try.pinned (OpenSpec.upto fnExactSeeAllSpec)

/-- 'laws.FnExactRangeOf', WHERE WHAT IT READS IS OF BULK AT MOST 1048576: true; the input reads as it did. -/
def fnExactRangeOfUptoRow : OpenClaim := { program := "yteeaebelknpdjbb", sum := "dc7c654a2b5c29e9fdc0560fc67a72fc9fd703abdeb42f5f2ea50f4a9822c29d", func := "loop.example/g00527/laws.FnExactRangeOf", spec := "fnExactRangeOf", unfollowed := true, recurses := true, apart := false, narrowed := true }
def FnExactRangeOfUptoSaid : Prop := fnExactRangeOfUptoRow.holds Try.pinned (OpenSpec.upto fnExactRangeOfSpec)

end Rows
end Go.Proofs.Yteeaebelknpdjbb
