/-
  DERIVED. GIVEN WITH THE SEED: THE CARDS: each row of YthpimklbdabdhaqDoorRows.lean that lists a variable, with what it lists TIED to the program's text (the seventh form; the later family's looks); each row that meets fmt, with fmt's text TOLD by the authors' own Lean function (tested against real Go, not proved from fmt's source: count such statements apart). THE CARD IS WHAT COUNTS. Prove the row's statement (the work); the ties are given (YthpimklbdabdhaqDoorTie.lean); close each card by the builder's one call (the guide's Derived/Test/ToyasCard.lean, 'card_holds'). Laid BY PROGRAM, IN A SANDBOX (cutbox-door.mjs). By AI agents, Wed Nov 11 2026. No macro, syntax, notation, axiom, sorry.
-/
import Derived.Test.YthpimklbdabdhaqDoorRows
import GoSem.ClaimSeven
namespace Go.Proofs.YthpimklbdabdhaqDoor
namespace Rows

/-- THE TIED CARD OF 'laws.FnExactSizeOf'. -/
def fnExactSizeOfCard : Claim7 := { stood := { row := fnExactSizeOfRow, standIns := [], harness := (true, "9db66907240b40419266ff108183ca3df869ef9e9a1b2dd3acad2c64348068b7"), looks := false }, kinds := [], alts := [], laidByText := true, laidKinds := [.data], laidTests := true, laidLooks := .later }
def FnExactSizeOfCardSaid : Prop := Claim7.holds Tryd.pinned (.plain (OpenSpec.ofChange fnExactSizeOfSpec)) fnExactSizeOfCard

/-- THE TIED CARD OF 'laws.FnExactPutNumber'. -/
def fnExactPutNumberCard : Claim7 := { stood := { row := fnExactPutNumberRow, standIns := [], harness := (true, "9db66907240b40419266ff108183ca3df869ef9e9a1b2dd3acad2c64348068b7"), looks := false }, kinds := [], alts := [], laidByText := true, laidKinds := [.data], laidTests := true, laidLooks := .later }
def FnExactPutNumberCardSaid : Prop := Claim7.holds Tryd.pinned (.plain (OpenSpec.ofChange fnExactPutNumberSpec)) fnExactPutNumberCard

/-- THE SECOND FORM's CARD OF 'laws.FnExactSizeOf'. -/
def fnExactSizeOfUptoCard : Claim7 := { stood := { row := fnExactSizeOfUptoRow, standIns := [], harness := (true, "9db66907240b40419266ff108183ca3df869ef9e9a1b2dd3acad2c64348068b7"), looks := false }, kinds := [], alts := [], laidByText := true, laidKinds := [.data], laidTests := true, laidLooks := .later }
def FnExactSizeOfUptoCardSaid : Prop := Claim7.holds Tryd.pinned (.plain (OpenSpec.upto fnExactSizeOfSpec)) fnExactSizeOfUptoCard

/-- THE SECOND FORM's CARD OF 'laws.FnExactPutNumber'. -/
def fnExactPutNumberUptoCard : Claim7 := { stood := { row := fnExactPutNumberUptoRow, standIns := [], harness := (true, "9db66907240b40419266ff108183ca3df869ef9e9a1b2dd3acad2c64348068b7"), looks := false }, kinds := [], alts := [], laidByText := true, laidKinds := [.data], laidTests := true, laidLooks := .later }
def FnExactPutNumberUptoCardSaid : Prop := Claim7.holds Tryd.pinned (.plain (OpenSpec.upto fnExactPutNumberSpec)) fnExactPutNumberUptoCard
end Rows
end Go.Proofs.YthpimklbdabdhaqDoor
