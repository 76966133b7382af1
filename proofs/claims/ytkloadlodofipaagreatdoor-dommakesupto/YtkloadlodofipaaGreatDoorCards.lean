/-
  DERIVED. GIVEN WITH THE SEED: THE CARDS: each row of YtkloadlodofipaaGreatDoorRows.lean that lists a variable, with what it lists TIED to the program's text (the seventh form; the later family's looks); each row that meets fmt, with fmt's text TOLD by the authors' own Lean function (tested against real Go, not proved from fmt's source: count such statements apart). THE CARD IS WHAT COUNTS. Prove the row's statement (the work); the ties are given (YtkloadlodofipaaGreatDoorTie.lean); close each card by the builder's one call (the guide's Derived/Test/ToyasCard.lean, 'card_holds'). Laid BY PROGRAM, IN A SANDBOX (cutbox-door.mjs). By AI agents, Wed Nov 11 2026. No macro, syntax, notation, axiom, sorry.
-/
import Derived.Test.YtkloadlodofipaaGreatDoorRows
import GoSem.ClaimSeven
namespace Go.Proofs.YtkloadlodofipaaGreatDoor
namespace Rows

/-- THE TIED CARD OF 'jigsawlaw02.DomMakes'. -/
def domMakesCard : Claim7 := { stood := { row := domMakesRow, standIns := [], harness := (true, "2dd7018e4a8d786e7fb3ec29dc237d031d5c80382675f015c2f3b4c582914d13"), looks := true }, kinds := [], alts := [], laidByText := true, laidKinds := [.data, .data, .data, .data, .sentinel, .sentinel, .pinned], laidTests := true, laidLooks := .later }
def DomMakesCardSaid : Prop := Claim7.holds Tryz.pinned (.plain (OpenSpec.ofChange domMakesSpec)) domMakesCard

/-- THE TIED CARD OF 'jigsawlaw02.DomAsks'. -/
def domAsksCard : Claim7 := { stood := { row := domAsksRow, standIns := [], harness := (true, "2dd7018e4a8d786e7fb3ec29dc237d031d5c80382675f015c2f3b4c582914d13"), looks := true }, kinds := [], alts := [], laidByText := true, laidKinds := [.data, .data, .data, .data, .sentinel, .sentinel, .pinned], laidTests := true, laidLooks := .later }
def DomAsksCardSaid : Prop := Claim7.holds Tryz.pinned (.plain (OpenSpec.ofChange domAsksSpec)) domAsksCard

/-- THE TIED CARD OF 'jigsawlaw02.DomJoins'. -/
def domJoinsCard : Claim7 := { stood := { row := domJoinsRow, standIns := [], harness := (true, "2dd7018e4a8d786e7fb3ec29dc237d031d5c80382675f015c2f3b4c582914d13"), looks := true }, kinds := [], alts := [], laidByText := true, laidKinds := [.data, .data, .data, .data, .sentinel, .sentinel, .pinned], laidTests := true, laidLooks := .later }
def DomJoinsCardSaid : Prop := Claim7.holds Tryz.pinned (.plain (OpenSpec.ofChange domJoinsSpec)) domJoinsCard

/-- THE TIED CARD OF 'jigsawlaw02.DomAlgebra'. -/
def domAlgebraCard : Claim7 := { stood := { row := domAlgebraRow, standIns := [], harness := (true, "2dd7018e4a8d786e7fb3ec29dc237d031d5c80382675f015c2f3b4c582914d13"), looks := true }, kinds := [], alts := [], laidByText := true, laidKinds := [.data, .data, .data, .data, .sentinel, .sentinel, .pinned], laidTests := true, laidLooks := .later }
def DomAlgebraCardSaid : Prop := Claim7.holds Tryz.pinned (.plain (OpenSpec.ofChange domAlgebraSpec)) domAlgebraCard

/-- THE TIED CARD OF 'jigsawlaw02.DomSteps'. -/
def domStepsCard : Claim7 := { stood := { row := domStepsRow, standIns := [], harness := (true, "2dd7018e4a8d786e7fb3ec29dc237d031d5c80382675f015c2f3b4c582914d13"), looks := true }, kinds := [], alts := [], laidByText := true, laidKinds := [.data, .data, .data, .data, .sentinel, .sentinel, .pinned], laidTests := true, laidLooks := .later }
def DomStepsCardSaid : Prop := Claim7.holds Tryz.pinned (.plain (OpenSpec.ofChange domStepsSpec)) domStepsCard

/-- THE SECOND FORM's CARD OF 'jigsawlaw02.DomMakes'. -/
def domMakesUptoCard : Claim7 := { stood := { row := domMakesUptoRow, standIns := [], harness := (true, "2dd7018e4a8d786e7fb3ec29dc237d031d5c80382675f015c2f3b4c582914d13"), looks := true }, kinds := [], alts := [], laidByText := true, laidKinds := [.data, .data, .data, .data, .sentinel, .sentinel, .pinned], laidTests := true, laidLooks := .later }
def DomMakesUptoCardSaid : Prop := Claim7.holds Tryz.pinned (.plain (OpenSpec.upto domMakesSpec)) domMakesUptoCard

/-- THE SECOND FORM's CARD OF 'jigsawlaw02.DomAsks'. -/
def domAsksUptoCard : Claim7 := { stood := { row := domAsksUptoRow, standIns := [], harness := (true, "2dd7018e4a8d786e7fb3ec29dc237d031d5c80382675f015c2f3b4c582914d13"), looks := true }, kinds := [], alts := [], laidByText := true, laidKinds := [.data, .data, .data, .data, .sentinel, .sentinel, .pinned], laidTests := true, laidLooks := .later }
def DomAsksUptoCardSaid : Prop := Claim7.holds Tryz.pinned (.plain (OpenSpec.upto domAsksSpec)) domAsksUptoCard

/-- THE SECOND FORM's CARD OF 'jigsawlaw02.DomJoins'. -/
def domJoinsUptoCard : Claim7 := { stood := { row := domJoinsUptoRow, standIns := [], harness := (true, "2dd7018e4a8d786e7fb3ec29dc237d031d5c80382675f015c2f3b4c582914d13"), looks := true }, kinds := [], alts := [], laidByText := true, laidKinds := [.data, .data, .data, .data, .sentinel, .sentinel, .pinned], laidTests := true, laidLooks := .later }
def DomJoinsUptoCardSaid : Prop := Claim7.holds Tryz.pinned (.plain (OpenSpec.upto domJoinsSpec)) domJoinsUptoCard

/-- THE SECOND FORM's CARD OF 'jigsawlaw02.DomAlgebra'. -/
def domAlgebraUptoCard : Claim7 := { stood := { row := domAlgebraUptoRow, standIns := [], harness := (true, "2dd7018e4a8d786e7fb3ec29dc237d031d5c80382675f015c2f3b4c582914d13"), looks := true }, kinds := [], alts := [], laidByText := true, laidKinds := [.data, .data, .data, .data, .sentinel, .sentinel, .pinned], laidTests := true, laidLooks := .later }
def DomAlgebraUptoCardSaid : Prop := Claim7.holds Tryz.pinned (.plain (OpenSpec.upto domAlgebraSpec)) domAlgebraUptoCard

/-- THE SECOND FORM's CARD OF 'jigsawlaw02.DomSteps'. -/
def domStepsUptoCard : Claim7 := { stood := { row := domStepsUptoRow, standIns := [], harness := (true, "2dd7018e4a8d786e7fb3ec29dc237d031d5c80382675f015c2f3b4c582914d13"), looks := true }, kinds := [], alts := [], laidByText := true, laidKinds := [.data, .data, .data, .data, .sentinel, .sentinel, .pinned], laidTests := true, laidLooks := .later }
def DomStepsUptoCardSaid : Prop := Claim7.holds Tryz.pinned (.plain (OpenSpec.upto domStepsSpec)) domStepsUptoCard
end Rows
end Go.Proofs.YtkloadlodofipaaGreatDoor
