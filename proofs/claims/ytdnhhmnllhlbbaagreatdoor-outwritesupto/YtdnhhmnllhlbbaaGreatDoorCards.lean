/-
  DERIVED. GIVEN WITH THE SEED: THE CARDS: each row of YtdnhhmnllhlbbaaGreatDoorRows.lean that lists a variable, with what it lists TIED to the program's text (the seventh form; the later family's looks); each row that meets fmt, with fmt's text TOLD by the authors' own Lean function (tested against real Go, not proved from fmt's source: count such statements apart). THE CARD IS WHAT COUNTS. Prove the row's statement (the work); the ties are given (YtdnhhmnllhlbbaaGreatDoorTie.lean); close each card by the builder's one call (the guide's Derived/Test/ToyasCard.lean, 'card_holds'). Laid BY PROGRAM, IN A SANDBOX (cutbox-door.mjs). By AI agents, Wed Nov 11 2026. No macro, syntax, notation, axiom, sorry.
-/
import Derived.Test.YtdnhhmnllhlbbaaGreatDoorRows
import GoSem.ClaimSeven
namespace Go.Proofs.YtdnhhmnllhlbbaaGreatDoor
namespace Rows

/-- THE TIED CARD OF 'jigsawlaw21.OutWrites'. -/
def outWritesCard : Claim7 := { stood := { row := outWritesRow, standIns := [], harness := (true, "178465364df5e105b9716dc489c56e25547f41adf896b3c3bc3a651913cf870f"), looks := true }, kinds := [], alts := [], laidByText := true, laidKinds := [.data, .data, .data, .data, .sentinel, .sentinel, .pinned], laidTests := true, laidLooks := .later }
def OutWritesCardSaid : Prop := Claim7.holds Tryz.pinned (.plain (OpenSpec.ofChange outWritesSpec)) outWritesCard

/-- THE TIED CARD OF 'jigsawlaw21.OutBack'. -/
def outBackCard : Claim7 := { stood := { row := outBackRow, standIns := [], harness := (true, "178465364df5e105b9716dc489c56e25547f41adf896b3c3bc3a651913cf870f"), looks := true }, kinds := [], alts := [], laidByText := true, laidKinds := [.data, .data, .data, .data, .sentinel, .sentinel, .pinned], laidTests := true, laidLooks := .later }
def OutBackCardSaid : Prop := Claim7.holds Tryz.pinned (.plain (OpenSpec.ofChange outBackSpec)) outBackCard

/-- THE TIED CARD OF 'jigsawlaw21.OutApart'. -/
def outApartCard : Claim7 := { stood := { row := outApartRow, standIns := [], harness := (true, "178465364df5e105b9716dc489c56e25547f41adf896b3c3bc3a651913cf870f"), looks := true }, kinds := [], alts := [], laidByText := true, laidKinds := [.data, .data, .data, .data, .sentinel, .sentinel, .pinned], laidTests := true, laidLooks := .later }
def OutApartCardSaid : Prop := Claim7.holds Tryz.pinned (.plain (OpenSpec.ofChange outApartSpec)) outApartCard

/-- THE TIED CARD OF 'jigsawlaw21.OutEnds'. -/
def outEndsCard : Claim7 := { stood := { row := outEndsRow, standIns := [], harness := (true, "178465364df5e105b9716dc489c56e25547f41adf896b3c3bc3a651913cf870f"), looks := true }, kinds := [], alts := [], laidByText := true, laidKinds := [.data, .data, .data, .data, .sentinel, .sentinel, .pinned], laidTests := true, laidLooks := .later }
def OutEndsCardSaid : Prop := Claim7.holds Tryz.pinned (.plain (OpenSpec.ofChange outEndsSpec)) outEndsCard

/-- THE SECOND FORM's CARD OF 'jigsawlaw21.OutWrites'. -/
def outWritesUptoCard : Claim7 := { stood := { row := outWritesUptoRow, standIns := [], harness := (true, "178465364df5e105b9716dc489c56e25547f41adf896b3c3bc3a651913cf870f"), looks := true }, kinds := [], alts := [], laidByText := true, laidKinds := [.data, .data, .data, .data, .sentinel, .sentinel, .pinned], laidTests := true, laidLooks := .later }
def OutWritesUptoCardSaid : Prop := Claim7.holds Tryz.pinned (.plain (OpenSpec.upto outWritesSpec)) outWritesUptoCard

/-- THE SECOND FORM's CARD OF 'jigsawlaw21.OutBack'. -/
def outBackUptoCard : Claim7 := { stood := { row := outBackUptoRow, standIns := [], harness := (true, "178465364df5e105b9716dc489c56e25547f41adf896b3c3bc3a651913cf870f"), looks := true }, kinds := [], alts := [], laidByText := true, laidKinds := [.data, .data, .data, .data, .sentinel, .sentinel, .pinned], laidTests := true, laidLooks := .later }
def OutBackUptoCardSaid : Prop := Claim7.holds Tryz.pinned (.plain (OpenSpec.upto outBackSpec)) outBackUptoCard

/-- THE SECOND FORM's CARD OF 'jigsawlaw21.OutApart'. -/
def outApartUptoCard : Claim7 := { stood := { row := outApartUptoRow, standIns := [], harness := (true, "178465364df5e105b9716dc489c56e25547f41adf896b3c3bc3a651913cf870f"), looks := true }, kinds := [], alts := [], laidByText := true, laidKinds := [.data, .data, .data, .data, .sentinel, .sentinel, .pinned], laidTests := true, laidLooks := .later }
def OutApartUptoCardSaid : Prop := Claim7.holds Tryz.pinned (.plain (OpenSpec.upto outApartSpec)) outApartUptoCard

/-- THE SECOND FORM's CARD OF 'jigsawlaw21.OutEnds'. -/
def outEndsUptoCard : Claim7 := { stood := { row := outEndsUptoRow, standIns := [], harness := (true, "178465364df5e105b9716dc489c56e25547f41adf896b3c3bc3a651913cf870f"), looks := true }, kinds := [], alts := [], laidByText := true, laidKinds := [.data, .data, .data, .data, .sentinel, .sentinel, .pinned], laidTests := true, laidLooks := .later }
def OutEndsUptoCardSaid : Prop := Claim7.holds Tryz.pinned (.plain (OpenSpec.upto outEndsSpec)) outEndsUptoCard
end Rows
end Go.Proofs.YtdnhhmnllhlbbaaGreatDoor
