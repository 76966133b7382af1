/-
  DERIVED. GIVEN WITH THE SEED: THE CARDS: each row of YtacnhkaibcjjgaaGreatDoorRows.lean that lists a variable, with what it lists TIED to the program's text (the seventh form; the later family's looks); each row that meets fmt, with fmt's text TOLD by the authors' own Lean function (tested against real Go, not proved from fmt's source: count such statements apart). THE CARD IS WHAT COUNTS. Prove the row's statement (the work); the ties are given (YtacnhkaibcjjgaaGreatDoorTie.lean); close each card by the builder's one call (the guide's Derived/Test/ToyasCard.lean, 'card_holds'). Laid BY PROGRAM, IN A SANDBOX (cutbox-door.mjs). By AI agents, Wed Nov 11 2026. No macro, syntax, notation, axiom, sorry.
-/
import Derived.Test.YtacnhkaibcjjgaaGreatDoorRows
import GoSem.ClaimSeven
namespace Go.Proofs.YtacnhkaibcjjgaaGreatDoor
namespace Rows

/-- THE TIED CARD OF 'jigsawlaw04.SetsReckons'. -/
def setsReckonsCard : Claim7 := { stood := { row := setsReckonsRow, standIns := [], harness := (true, "59b669598034f7d0f461cc10ef2f699107b792866600f52abd4b10be3a018778"), looks := true }, kinds := [], alts := [], laidByText := true, laidKinds := [.data, .data, .data, .data, .sentinel, .sentinel, .pinned], laidTests := true, laidLooks := .later }
def SetsReckonsCardSaid : Prop := Claim7.holds Tryz.pinned (.plain (OpenSpec.ofChange setsReckonsSpec)) setsReckonsCard

/-- THE TIED CARD OF 'jigsawlaw04.SetsMakes'. -/
def setsMakesCard : Claim7 := { stood := { row := setsMakesRow, standIns := [], harness := (true, "59b669598034f7d0f461cc10ef2f699107b792866600f52abd4b10be3a018778"), looks := true }, kinds := [], alts := [], laidByText := true, laidKinds := [.data, .data, .data, .data, .sentinel, .sentinel, .pinned], laidTests := true, laidLooks := .later }
def SetsMakesCardSaid : Prop := Claim7.holds Tryz.pinned (.plain (OpenSpec.ofChange setsMakesSpec)) setsMakesCard

/-- THE TIED CARD OF 'jigsawlaw04.SetsAll'. -/
def setsAllCard : Claim7 := { stood := { row := setsAllRow, standIns := [], harness := (true, "59b669598034f7d0f461cc10ef2f699107b792866600f52abd4b10be3a018778"), looks := true }, kinds := [], alts := [], laidByText := true, laidKinds := [.data, .data, .data, .data, .sentinel, .sentinel, .pinned], laidTests := true, laidLooks := .later }
def SetsAllCardSaid : Prop := Claim7.holds Tryz.pinned (.plain (OpenSpec.ofChange setsAllSpec)) setsAllCard

/-- THE TIED CARD OF 'jigsawlaw04.SetsCuts'. -/
def setsCutsCard : Claim7 := { stood := { row := setsCutsRow, standIns := [], harness := (true, "59b669598034f7d0f461cc10ef2f699107b792866600f52abd4b10be3a018778"), looks := true }, kinds := [], alts := [], laidByText := true, laidKinds := [.data, .data, .data, .data, .sentinel, .sentinel, .pinned], laidTests := true, laidLooks := .later }
def SetsCutsCardSaid : Prop := Claim7.holds Tryz.pinned (.plain (OpenSpec.ofChange setsCutsSpec)) setsCutsCard

/-- THE TIED CARD OF 'jigsawlaw04.SetsParts'. -/
def setsPartsCard : Claim7 := { stood := { row := setsPartsRow, standIns := [], harness := (true, "59b669598034f7d0f461cc10ef2f699107b792866600f52abd4b10be3a018778"), looks := true }, kinds := [], alts := [], laidByText := true, laidKinds := [.data, .data, .data, .data, .sentinel, .sentinel, .pinned], laidTests := true, laidLooks := .later }
def SetsPartsCardSaid : Prop := Claim7.holds Tryz.pinned (.plain (OpenSpec.ofChange setsPartsSpec)) setsPartsCard

/-- THE TIED CARD OF 'jigsawlaw04.SetsAlgebra'. -/
def setsAlgebraCard : Claim7 := { stood := { row := setsAlgebraRow, standIns := [], harness := (true, "59b669598034f7d0f461cc10ef2f699107b792866600f52abd4b10be3a018778"), looks := true }, kinds := [], alts := [], laidByText := true, laidKinds := [.data, .data, .data, .data, .sentinel, .sentinel, .pinned], laidTests := true, laidLooks := .later }
def SetsAlgebraCardSaid : Prop := Claim7.holds Tryz.pinned (.plain (OpenSpec.ofChange setsAlgebraSpec)) setsAlgebraCard

/-- THE SECOND FORM's CARD OF 'jigsawlaw04.SetsReckons'. -/
def setsReckonsUptoCard : Claim7 := { stood := { row := setsReckonsUptoRow, standIns := [], harness := (true, "59b669598034f7d0f461cc10ef2f699107b792866600f52abd4b10be3a018778"), looks := true }, kinds := [], alts := [], laidByText := true, laidKinds := [.data, .data, .data, .data, .sentinel, .sentinel, .pinned], laidTests := true, laidLooks := .later }
def SetsReckonsUptoCardSaid : Prop := Claim7.holds Tryz.pinned (.plain (OpenSpec.upto setsReckonsSpec)) setsReckonsUptoCard

/-- THE SECOND FORM's CARD OF 'jigsawlaw04.SetsMakes'. -/
def setsMakesUptoCard : Claim7 := { stood := { row := setsMakesUptoRow, standIns := [], harness := (true, "59b669598034f7d0f461cc10ef2f699107b792866600f52abd4b10be3a018778"), looks := true }, kinds := [], alts := [], laidByText := true, laidKinds := [.data, .data, .data, .data, .sentinel, .sentinel, .pinned], laidTests := true, laidLooks := .later }
def SetsMakesUptoCardSaid : Prop := Claim7.holds Tryz.pinned (.plain (OpenSpec.upto setsMakesSpec)) setsMakesUptoCard

/-- THE SECOND FORM's CARD OF 'jigsawlaw04.SetsAll'. -/
def setsAllUptoCard : Claim7 := { stood := { row := setsAllUptoRow, standIns := [], harness := (true, "59b669598034f7d0f461cc10ef2f699107b792866600f52abd4b10be3a018778"), looks := true }, kinds := [], alts := [], laidByText := true, laidKinds := [.data, .data, .data, .data, .sentinel, .sentinel, .pinned], laidTests := true, laidLooks := .later }
def SetsAllUptoCardSaid : Prop := Claim7.holds Tryz.pinned (.plain (OpenSpec.upto setsAllSpec)) setsAllUptoCard

/-- THE SECOND FORM's CARD OF 'jigsawlaw04.SetsCuts'. -/
def setsCutsUptoCard : Claim7 := { stood := { row := setsCutsUptoRow, standIns := [], harness := (true, "59b669598034f7d0f461cc10ef2f699107b792866600f52abd4b10be3a018778"), looks := true }, kinds := [], alts := [], laidByText := true, laidKinds := [.data, .data, .data, .data, .sentinel, .sentinel, .pinned], laidTests := true, laidLooks := .later }
def SetsCutsUptoCardSaid : Prop := Claim7.holds Tryz.pinned (.plain (OpenSpec.upto setsCutsSpec)) setsCutsUptoCard

/-- THE SECOND FORM's CARD OF 'jigsawlaw04.SetsParts'. -/
def setsPartsUptoCard : Claim7 := { stood := { row := setsPartsUptoRow, standIns := [], harness := (true, "59b669598034f7d0f461cc10ef2f699107b792866600f52abd4b10be3a018778"), looks := true }, kinds := [], alts := [], laidByText := true, laidKinds := [.data, .data, .data, .data, .sentinel, .sentinel, .pinned], laidTests := true, laidLooks := .later }
def SetsPartsUptoCardSaid : Prop := Claim7.holds Tryz.pinned (.plain (OpenSpec.upto setsPartsSpec)) setsPartsUptoCard

/-- THE SECOND FORM's CARD OF 'jigsawlaw04.SetsAlgebra'. -/
def setsAlgebraUptoCard : Claim7 := { stood := { row := setsAlgebraUptoRow, standIns := [], harness := (true, "59b669598034f7d0f461cc10ef2f699107b792866600f52abd4b10be3a018778"), looks := true }, kinds := [], alts := [], laidByText := true, laidKinds := [.data, .data, .data, .data, .sentinel, .sentinel, .pinned], laidTests := true, laidLooks := .later }
def SetsAlgebraUptoCardSaid : Prop := Claim7.holds Tryz.pinned (.plain (OpenSpec.upto setsAlgebraSpec)) setsAlgebraUptoCard
end Rows
end Go.Proofs.YtacnhkaibcjjgaaGreatDoor
