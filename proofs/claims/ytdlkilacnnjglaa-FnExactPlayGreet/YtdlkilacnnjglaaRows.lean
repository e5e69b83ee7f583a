/-
  No cell of these rows narrows 'for every input' (looked for: loops, veiled, ifaces, maps, wideKeys, modest, calm, conditions, laid).
  DERIVED. THE GIVEN ROWS OF THIS SEAT. 6 by the template 'for every input the law returns true; each argument reads behind the call as it read before'; 0 by the template 'total and deterministic' (their statements: YtdlkilacnnjglaaTotals.lean).
  GIVEN WITH THE SEED: the statements are not yours to turn. If you find one false, say at which input.
  Laid BY PROGRAM, IN A SANDBOX (cutbox-rows.mjs): the forced cells as the released guide's own fill.sh prints them over the translation 3064c292840f94f5… (all of the seat's roots in one cut). By AI agents, Wed Nov 11 2026. No macro, syntax, notation, axiom, sorry.
-/
import Derived.Test.YtdlkilacnnjglaaChecked
import GoSem.Claim
import GoSem.ClaimJoined
import GoSem.ClaimMapViews
import Derived.JoinedTies
import Derived.KernelRfl
namespace Go.Proofs.Ytdlkilacnnjglaa
/- THE CELL 'sum', in the pinned program and in every row, IS THE sha256 OF THE DUMP (.gsa) THAT YtdlkilacnnjglaaProg.lean LOADS. Nothing in Lean hashes anything: it is a label: what it is worth is what the hold of that sum in a sandbox is worth. -/
noncomputable def Try.pinned : Pinned := { name := "ytdlkilacnnjglaa", sum := "3064c292840f94f5215fa85633bf0d27f9eaa628059080a2b35bc2981adc3f6c", checked := Try.checked }
namespace Rows
def none {H : Type} : Left H := { results := [], args := [] }

/-- 'laws.FnExactNewCourt': WHATEVER THE INPUT: true; the input reads as it did. -/
def fnExactNewCourtSpec : ChangeSpec := { name := "fnExactNewCourt", fn := fun _ => fun
  | [d] => { results := [.lit (.bool true)], args := [d] }
  | _ => none }
def fnExactNewCourtRow : OpenClaim := { program := "ytdlkilacnnjglaa", sum := "3064c292840f94f5215fa85633bf0d27f9eaa628059080a2b35bc2981adc3f6c", func := "loop.example/g00527/laws.FnExactNewCourt", spec := "fnExactNewCourt", unfollowed := true, recurses := true, apart := false }
def FnExactNewCourtSaid : Prop := fnExactNewCourtRow.holds Try.pinned (OpenSpec.ofChange fnExactNewCourtSpec)

/-- ITS FALSE NEIGHBOUR: 'it returns false'. Refute it at one input. -/
def fnExactNewCourtWrong : ChangeSpec := { name := "fnExactNewCourt", fn := fun _ => fun
  | [d] => { results := [.lit (.bool false)], args := [d] }
  | _ => none }
def FnExactNewCourtWrongFalsely : Prop := fnExactNewCourtRow.holds Try.pinned (OpenSpec.ofChange fnExactNewCourtWrong)

/-- 'laws.FnExactGoodCourt': WHATEVER THE INPUT: true; the input reads as it did. -/
def fnExactGoodCourtSpec : ChangeSpec := { name := "fnExactGoodCourt", fn := fun _ => fun
  | [d] => { results := [.lit (.bool true)], args := [d] }
  | _ => none }
def fnExactGoodCourtRow : OpenClaim := { program := "ytdlkilacnnjglaa", sum := "3064c292840f94f5215fa85633bf0d27f9eaa628059080a2b35bc2981adc3f6c", func := "loop.example/g00527/laws.FnExactGoodCourt", spec := "fnExactGoodCourt", unfollowed := true, recurses := true, apart := false }
def FnExactGoodCourtSaid : Prop := fnExactGoodCourtRow.holds Try.pinned (OpenSpec.ofChange fnExactGoodCourtSpec)

/-- ITS FALSE NEIGHBOUR: 'it returns false'. Refute it at one input. -/
def fnExactGoodCourtWrong : ChangeSpec := { name := "fnExactGoodCourt", fn := fun _ => fun
  | [d] => { results := [.lit (.bool false)], args := [d] }
  | _ => none }
def FnExactGoodCourtWrongFalsely : Prop := fnExactGoodCourtRow.holds Try.pinned (OpenSpec.ofChange fnExactGoodCourtWrong)

/-- 'laws.FnExactIsSettled': WHATEVER THE INPUT: true; the input reads as it did. -/
def fnExactIsSettledSpec : ChangeSpec := { name := "fnExactIsSettled", fn := fun _ => fun
  | [d] => { results := [.lit (.bool true)], args := [d] }
  | _ => none }
def fnExactIsSettledRow : OpenClaim := { program := "ytdlkilacnnjglaa", sum := "3064c292840f94f5215fa85633bf0d27f9eaa628059080a2b35bc2981adc3f6c", func := "loop.example/g00527/laws.FnExactIsSettled", spec := "fnExactIsSettled", unfollowed := true, recurses := true, apart := false }
def FnExactIsSettledSaid : Prop := fnExactIsSettledRow.holds Try.pinned (OpenSpec.ofChange fnExactIsSettledSpec)

/-- ITS FALSE NEIGHBOUR: 'it returns false'. Refute it at one input. -/
def fnExactIsSettledWrong : ChangeSpec := { name := "fnExactIsSettled", fn := fun _ => fun
  | [d] => { results := [.lit (.bool false)], args := [d] }
  | _ => none }
def FnExactIsSettledWrongFalsely : Prop := fnExactIsSettledRow.holds Try.pinned (OpenSpec.ofChange fnExactIsSettledWrong)

/-- 'laws.FnExactAgreesIn': WHATEVER THE INPUT: true; the input reads as it did. -/
def fnExactAgreesInSpec : ChangeSpec := { name := "fnExactAgreesIn", fn := fun _ => fun
  | [d] => { results := [.lit (.bool true)], args := [d] }
  | _ => none }
def fnExactAgreesInRow : OpenClaim := { program := "ytdlkilacnnjglaa", sum := "3064c292840f94f5215fa85633bf0d27f9eaa628059080a2b35bc2981adc3f6c", func := "loop.example/g00527/laws.FnExactAgreesIn", spec := "fnExactAgreesIn", unfollowed := true, recurses := true, apart := false }
def FnExactAgreesInSaid : Prop := fnExactAgreesInRow.holds Try.pinned (OpenSpec.ofChange fnExactAgreesInSpec)

/-- ITS FALSE NEIGHBOUR: 'it returns false'. Refute it at one input. -/
def fnExactAgreesInWrong : ChangeSpec := { name := "fnExactAgreesIn", fn := fun _ => fun
  | [d] => { results := [.lit (.bool false)], args := [d] }
  | _ => none }
def FnExactAgreesInWrongFalsely : Prop := fnExactAgreesInRow.holds Try.pinned (OpenSpec.ofChange fnExactAgreesInWrong)

/-- 'laws.FnExactPlayGreet': WHATEVER THE INPUT: true; the input reads as it did. -/
def fnExactPlayGreetSpec : ChangeSpec := { name := "fnExactPlayGreet", fn := fun _ => fun
  | [d] => { results := [.lit (.bool true)], args := [d] }
  | _ => none }
def fnExactPlayGreetRow : OpenClaim := { program := "ytdlkilacnnjglaa", sum := "3064c292840f94f5215fa85633bf0d27f9eaa628059080a2b35bc2981adc3f6c", func := "loop.example/g00527/laws.FnExactPlayGreet", spec := "fnExactPlayGreet", unfollowed := true, recurses := true, apart := false }
def FnExactPlayGreetSaid : Prop := fnExactPlayGreetRow.holds Try.pinned (OpenSpec.ofChange fnExactPlayGreetSpec)

/-- ITS FALSE NEIGHBOUR: 'it returns false'. Refute it at one input. -/
def fnExactPlayGreetWrong : ChangeSpec := { name := "fnExactPlayGreet", fn := fun _ => fun
  | [d] => { results := [.lit (.bool false)], args := [d] }
  | _ => none }
def FnExactPlayGreetWrongFalsely : Prop := fnExactPlayGreetRow.holds Try.pinned (OpenSpec.ofChange fnExactPlayGreetWrong)

/-- 'laws.FnExactStepCourt': WHATEVER THE INPUT: true; the input reads as it did. -/
def fnExactStepCourtSpec : ChangeSpec := { name := "fnExactStepCourt", fn := fun _ => fun
  | [d1, d2] => { results := [.lit (.bool true)], args := [d1, d2] }
  | _ => none }
def fnExactStepCourtRow : OpenClaim := { program := "ytdlkilacnnjglaa", sum := "3064c292840f94f5215fa85633bf0d27f9eaa628059080a2b35bc2981adc3f6c", func := "loop.example/g00527/laws.FnExactStepCourt", spec := "fnExactStepCourt", unfollowed := true, recurses := true, apart := false }
def FnExactStepCourtSaid : Prop := fnExactStepCourtRow.holds Try.pinned (OpenSpec.ofChange fnExactStepCourtSpec)

/-- ITS FALSE NEIGHBOUR: 'it returns false'. Refute it at one input. -/
def fnExactStepCourtWrong : ChangeSpec := { name := "fnExactStepCourt", fn := fun _ => fun
  | [d1, d2] => { results := [.lit (.bool false)], args := [d1, d2] }
  | _ => none }
def FnExactStepCourtWrongFalsely : Prop := fnExactStepCourtRow.holds Try.pinned (OpenSpec.ofChange fnExactStepCourtWrong)

/- THE SECOND FORM. 'bulk': how many values and letters a reading holds, each counted each time it is reached (what is shared counts as often as it is met; a slice's spare places count too). A statement '..UptoSaid' is the law's where the arguments, and the package variables that the reading takes, are together of bulk at most 1048576: NARROWER than '..Said'. Prove '..Said' where nothing that the law and all that it calls make is longer than what came in: it says more and counts as full. Else prove '..UptoSaid'. A law counts once. -/
mutual
def uptoBulk {H : Type} : DataW H → Nat
  | .lit (.string bytes) => bytes.length + 1
  | .lit _ => 1
  | .nil => 1
  | .ptr d => uptoBulk d + 1
  | .slice elems spare => uptoBulkAll elems + uptoBulkAll spare + 1
  | .agg parts => uptoBulkAll parts + 1
  | .iface _ d => uptoBulk d + 1
  | .map entries => uptoBulkEntries entries + 1
  | .held _ => 1
def uptoBulkAll {H : Type} : List (DataW H) → Nat
  | [] => 0
  | d :: r => uptoBulk d + uptoBulkAll r
def uptoBulkEntries {H : Type} : List (Lit × DataW H) → Nat
  | [] => 0
  | x :: r => uptoBulkEntry x + uptoBulkEntries r
def uptoBulkEntry {H : Type} : Lit × DataW H → Nat
  | (.string bytes, d) => bytes.length + uptoBulk d + 1
  | (_, d) => uptoBulk d + 1
 end
def uptoSmall : (H : Type) → List (DataW H) → Bool := fun _ ds => decide (uptoBulkAll ds ≤ 1048576)
def OpenSpec.upto (s : _root_.Go.ChangeSpec) : _root_.Go.OpenSpec := { _root_.Go.OpenSpec.ofChange s with cond := some uptoSmall }

/-- 'laws.FnExactNewCourt', WHERE WHAT IT READS IS OF BULK AT MOST 1048576: true; the input reads as it did. -/
def fnExactNewCourtUptoRow : OpenClaim := { program := "ytdlkilacnnjglaa", sum := "3064c292840f94f5215fa85633bf0d27f9eaa628059080a2b35bc2981adc3f6c", func := "loop.example/g00527/laws.FnExactNewCourt", spec := "fnExactNewCourt", unfollowed := true, recurses := true, apart := false, narrowed := true }
def FnExactNewCourtUptoSaid : Prop := fnExactNewCourtUptoRow.holds Try.pinned (OpenSpec.upto fnExactNewCourtSpec)

/-- 'laws.FnExactGoodCourt', WHERE WHAT IT READS IS OF BULK AT MOST 1048576: true; the input reads as it did. -/
def fnExactGoodCourtUptoRow : OpenClaim := { program := "ytdlkilacnnjglaa", sum := "3064c292840f94f5215fa85633bf0d27f9eaa628059080a2b35bc2981adc3f6c", func := "loop.example/g00527/laws.FnExactGoodCourt", spec := "fnExactGoodCourt", unfollowed := true, recurses := true, apart := false, narrowed := true }
def FnExactGoodCourtUptoSaid : Prop := fnExactGoodCourtUptoRow.holds Try.pinned (OpenSpec.upto fnExactGoodCourtSpec)

/-- 'laws.FnExactIsSettled', WHERE WHAT IT READS IS OF BULK AT MOST 1048576: true; the input reads as it did. -/
def fnExactIsSettledUptoRow : OpenClaim := { program := "ytdlkilacnnjglaa", sum := "3064c292840f94f5215fa85633bf0d27f9eaa628059080a2b35bc2981adc3f6c", func := "loop.example/g00527/laws.FnExactIsSettled", spec := "fnExactIsSettled", unfollowed := true, recurses := true, apart := false, narrowed := true }
def FnExactIsSettledUptoSaid : Prop := fnExactIsSettledUptoRow.holds Try.pinned (OpenSpec.upto fnExactIsSettledSpec)

/-- 'laws.FnExactAgreesIn', WHERE WHAT IT READS IS OF BULK AT MOST 1048576: true; the input reads as it did. -/
def fnExactAgreesInUptoRow : OpenClaim := { program := "ytdlkilacnnjglaa", sum := "3064c292840f94f5215fa85633bf0d27f9eaa628059080a2b35bc2981adc3f6c", func := "loop.example/g00527/laws.FnExactAgreesIn", spec := "fnExactAgreesIn", unfollowed := true, recurses := true, apart := false, narrowed := true }
def FnExactAgreesInUptoSaid : Prop := fnExactAgreesInUptoRow.holds Try.pinned (OpenSpec.upto fnExactAgreesInSpec)

/-- 'laws.FnExactPlayGreet', WHERE WHAT IT READS IS OF BULK AT MOST 1048576: true; the input reads as it did. -/
def fnExactPlayGreetUptoRow : OpenClaim := { program := "ytdlkilacnnjglaa", sum := "3064c292840f94f5215fa85633bf0d27f9eaa628059080a2b35bc2981adc3f6c", func := "loop.example/g00527/laws.FnExactPlayGreet", spec := "fnExactPlayGreet", unfollowed := true, recurses := true, apart := false, narrowed := true }
def FnExactPlayGreetUptoSaid : Prop := fnExactPlayGreetUptoRow.holds Try.pinned (OpenSpec.upto fnExactPlayGreetSpec)

/-- 'laws.FnExactStepCourt', WHERE WHAT IT READS IS OF BULK AT MOST 1048576: true; the input reads as it did. -/
def fnExactStepCourtUptoRow : OpenClaim := { program := "ytdlkilacnnjglaa", sum := "3064c292840f94f5215fa85633bf0d27f9eaa628059080a2b35bc2981adc3f6c", func := "loop.example/g00527/laws.FnExactStepCourt", spec := "fnExactStepCourt", unfollowed := true, recurses := true, apart := false, narrowed := true }
def FnExactStepCourtUptoSaid : Prop := fnExactStepCourtUptoRow.holds Try.pinned (OpenSpec.upto fnExactStepCourtSpec)

end Rows
end Go.Proofs.Ytdlkilacnnjglaa
