/-
  DERIVED. GIVEN WITH THE SEED: THE CARDS: each row of YthpimklbdabdharDoorRows.lean that lists a variable, with what it lists TIED to the program's text (the seventh form; the later family's looks); each row that meets fmt, with fmt's text TOLD by the authors' own Lean function (tested against real Go, not proved from fmt's source: count such statements apart). THE CARD IS WHAT COUNTS. Prove the row's statement (the work); the ties are given (YthpimklbdabdharDoorTie.lean); close each card by the builder's one call (the guide's Derived/Test/ToyasCard.lean, 'card_holds'). Laid BY PROGRAM, IN A SANDBOX (cutbox-door.mjs). By AI agents, Wed Nov 11 2026. No macro, syntax, notation, axiom, sorry.
-/
import Derived.Test.YthpimklbdabdharDoorRows
import GoSem.ClaimSeven
namespace Go.Proofs.YthpimklbdabdharDoor
namespace Rows

/-- THE TIED CARD OF 'laws.FnExactGetNumber'. -/
def fnExactGetNumberCard : Claim7 := { stood := { row := fnExactGetNumberRow, standIns := [], harness := (true, "5b8f3927743d37a3eb3aebc7350f76b1a0684096ae4f4548463b93d973897fa0"), looks := false }, kinds := [], alts := [], laidByText := true, laidKinds := [.data], laidTests := true, laidLooks := .later }
def FnExactGetNumberCardSaid : Prop := Claim7.holds Tryd.pinned (.plain (OpenSpec.ofChange fnExactGetNumberSpec)) fnExactGetNumberCard

/-- THE TIED CARD OF 'laws.FnExactPutWide'. -/
def fnExactPutWideCard : Claim7 := { stood := { row := fnExactPutWideRow, standIns := [], harness := (true, "5b8f3927743d37a3eb3aebc7350f76b1a0684096ae4f4548463b93d973897fa0"), looks := false }, kinds := [], alts := [], laidByText := true, laidKinds := [.data], laidTests := true, laidLooks := .later }
def FnExactPutWideCardSaid : Prop := Claim7.holds Tryd.pinned (.plain (OpenSpec.ofChange fnExactPutWideSpec)) fnExactPutWideCard

/-- THE TIED CARD OF 'laws.FnExactPutList'. -/
def fnExactPutListCard : Claim7 := { stood := { row := fnExactPutListRow, standIns := [], harness := (true, "5b8f3927743d37a3eb3aebc7350f76b1a0684096ae4f4548463b93d973897fa0"), looks := false }, kinds := [], alts := [], laidByText := true, laidKinds := [.data], laidTests := true, laidLooks := .later }
def FnExactPutListCardSaid : Prop := Claim7.holds Tryd.pinned (.plain (OpenSpec.ofChange fnExactPutListSpec)) fnExactPutListCard

/-- THE TIED CARD OF 'laws.FnExactGetList'. -/
def fnExactGetListCard : Claim7 := { stood := { row := fnExactGetListRow, standIns := [], harness := (true, "5b8f3927743d37a3eb3aebc7350f76b1a0684096ae4f4548463b93d973897fa0"), looks := false }, kinds := [], alts := [], laidByText := true, laidKinds := [.data], laidTests := true, laidLooks := .later }
def FnExactGetListCardSaid : Prop := Claim7.holds Tryd.pinned (.plain (OpenSpec.ofChange fnExactGetListSpec)) fnExactGetListCard

/-- THE TIED CARD OF 'laws.FnExactPutText'. -/
def fnExactPutTextCard : Claim7 := { stood := { row := fnExactPutTextRow, standIns := [], harness := (true, "5b8f3927743d37a3eb3aebc7350f76b1a0684096ae4f4548463b93d973897fa0"), looks := false }, kinds := [], alts := [], laidByText := true, laidKinds := [.data], laidTests := true, laidLooks := .later }
def FnExactPutTextCardSaid : Prop := Claim7.holds Tryd.pinned (.plain (OpenSpec.ofChange fnExactPutTextSpec)) fnExactPutTextCard

/-- THE TIED CARD OF 'laws.FnExactGetText'. -/
def fnExactGetTextCard : Claim7 := { stood := { row := fnExactGetTextRow, standIns := [], harness := (true, "5b8f3927743d37a3eb3aebc7350f76b1a0684096ae4f4548463b93d973897fa0"), looks := false }, kinds := [], alts := [], laidByText := true, laidKinds := [.data], laidTests := true, laidLooks := .later }
def FnExactGetTextCardSaid : Prop := Claim7.holds Tryd.pinned (.plain (OpenSpec.ofChange fnExactGetTextSpec)) fnExactGetTextCard

/-- THE SECOND FORM's CARD OF 'laws.FnExactGetNumber'. -/
def fnExactGetNumberUptoCard : Claim7 := { stood := { row := fnExactGetNumberUptoRow, standIns := [], harness := (true, "5b8f3927743d37a3eb3aebc7350f76b1a0684096ae4f4548463b93d973897fa0"), looks := false }, kinds := [], alts := [], laidByText := true, laidKinds := [.data], laidTests := true, laidLooks := .later }
def FnExactGetNumberUptoCardSaid : Prop := Claim7.holds Tryd.pinned (.plain (OpenSpec.upto fnExactGetNumberSpec)) fnExactGetNumberUptoCard

/-- THE SECOND FORM's CARD OF 'laws.FnExactPutWide'. -/
def fnExactPutWideUptoCard : Claim7 := { stood := { row := fnExactPutWideUptoRow, standIns := [], harness := (true, "5b8f3927743d37a3eb3aebc7350f76b1a0684096ae4f4548463b93d973897fa0"), looks := false }, kinds := [], alts := [], laidByText := true, laidKinds := [.data], laidTests := true, laidLooks := .later }
def FnExactPutWideUptoCardSaid : Prop := Claim7.holds Tryd.pinned (.plain (OpenSpec.upto fnExactPutWideSpec)) fnExactPutWideUptoCard

/-- THE SECOND FORM's CARD OF 'laws.FnExactPutList'. -/
def fnExactPutListUptoCard : Claim7 := { stood := { row := fnExactPutListUptoRow, standIns := [], harness := (true, "5b8f3927743d37a3eb3aebc7350f76b1a0684096ae4f4548463b93d973897fa0"), looks := false }, kinds := [], alts := [], laidByText := true, laidKinds := [.data], laidTests := true, laidLooks := .later }
def FnExactPutListUptoCardSaid : Prop := Claim7.holds Tryd.pinned (.plain (OpenSpec.upto fnExactPutListSpec)) fnExactPutListUptoCard

/-- THE SECOND FORM's CARD OF 'laws.FnExactGetList'. -/
def fnExactGetListUptoCard : Claim7 := { stood := { row := fnExactGetListUptoRow, standIns := [], harness := (true, "5b8f3927743d37a3eb3aebc7350f76b1a0684096ae4f4548463b93d973897fa0"), looks := false }, kinds := [], alts := [], laidByText := true, laidKinds := [.data], laidTests := true, laidLooks := .later }
def FnExactGetListUptoCardSaid : Prop := Claim7.holds Tryd.pinned (.plain (OpenSpec.upto fnExactGetListSpec)) fnExactGetListUptoCard

/-- THE SECOND FORM's CARD OF 'laws.FnExactPutText'. -/
def fnExactPutTextUptoCard : Claim7 := { stood := { row := fnExactPutTextUptoRow, standIns := [], harness := (true, "5b8f3927743d37a3eb3aebc7350f76b1a0684096ae4f4548463b93d973897fa0"), looks := false }, kinds := [], alts := [], laidByText := true, laidKinds := [.data], laidTests := true, laidLooks := .later }
def FnExactPutTextUptoCardSaid : Prop := Claim7.holds Tryd.pinned (.plain (OpenSpec.upto fnExactPutTextSpec)) fnExactPutTextUptoCard

/-- THE SECOND FORM's CARD OF 'laws.FnExactGetText'. -/
def fnExactGetTextUptoCard : Claim7 := { stood := { row := fnExactGetTextUptoRow, standIns := [], harness := (true, "5b8f3927743d37a3eb3aebc7350f76b1a0684096ae4f4548463b93d973897fa0"), looks := false }, kinds := [], alts := [], laidByText := true, laidKinds := [.data], laidTests := true, laidLooks := .later }
def FnExactGetTextUptoCardSaid : Prop := Claim7.holds Tryd.pinned (.plain (OpenSpec.upto fnExactGetTextSpec)) fnExactGetTextUptoCard
end Rows
end Go.Proofs.YthpimklbdabdharDoor
