/-
  DERIVED. GIVEN WITH THE SEED: THE CARDS: each row of YtkmdkfegpgkkmatDoorRows.lean that lists a variable, with what it lists TIED to the program's text (the seventh form; the later family's looks); each row that meets fmt, with fmt's text TOLD by the authors' own Lean function (tested against real Go, not proved from fmt's source: count such statements apart). THE CARD IS WHAT COUNTS. Prove the row's statement (the work); the ties are given (YtkmdkfegpgkkmatDoorTie.lean); close each card by the builder's one call (the guide's Derived/Test/ToyasCard.lean, 'card_holds'). Laid BY PROGRAM, IN A SANDBOX (cutbox-door.mjs). By AI agents, Wed Nov 11 2026. No macro, syntax, notation, axiom, sorry.
-/
import Derived.Test.YtkmdkfegpgkkmatDoorRows
import GoSem.ClaimSeven
namespace Go.Proofs.YtkmdkfegpgkkmatDoor
namespace Rows

/-- THE TIED CARD OF 'laws.FnExactRelationOf'. -/
def fnExactRelationOfCard : Claim7 := { stood := { row := fnExactRelationOfRow, standIns := [], harness := (true, "837494f063bb21dde77b337756d6f105c0a5ef6513fddc45037a1190baa49b41"), looks := false }, kinds := [], alts := [], laidByText := true, laidKinds := [.data], laidTests := true, laidLooks := .later }
def FnExactRelationOfCardSaid : Prop := Claim7.holds Tryd.pinned (.plain (OpenSpec.ofChange fnExactRelationOfSpec)) fnExactRelationOfCard

/-- THE SECOND FORM's CARD OF 'laws.FnExactRelationOf'. -/
def fnExactRelationOfUptoCard : Claim7 := { stood := { row := fnExactRelationOfUptoRow, standIns := [], harness := (true, "837494f063bb21dde77b337756d6f105c0a5ef6513fddc45037a1190baa49b41"), looks := false }, kinds := [], alts := [], laidByText := true, laidKinds := [.data], laidTests := true, laidLooks := .later }
def FnExactRelationOfUptoCardSaid : Prop := Claim7.holds Tryd.pinned (.plain (OpenSpec.upto fnExactRelationOfSpec)) fnExactRelationOfUptoCard
end Rows
end Go.Proofs.YtkmdkfegpgkkmatDoor
