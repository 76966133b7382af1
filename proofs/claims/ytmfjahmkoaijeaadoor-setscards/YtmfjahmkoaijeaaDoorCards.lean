/-
  DERIVED. GIVEN WITH THE SEED: THE CARDS: each row of YtmfjahmkoaijeaaDoorRows.lean that lists a variable, with what it lists TIED to the program's text (the seventh form; the later family's looks); each row that meets fmt, with fmt's text TOLD by the authors' own Lean function (tested against real Go, not proved from fmt's source: count such statements apart). THE CARD IS WHAT COUNTS. Prove the row's statement (the work); the ties are given (YtmfjahmkoaijeaaDoorTie.lean); close each card by the builder's one call (the guide's Derived/Test/ToyasCard.lean, 'card_holds'). Laid BY PROGRAM, IN A SANDBOX (cutbox-door.mjs). By AI agents, Wed Nov 11 2026. No macro, syntax, notation, axiom, sorry.
-/
import Derived.Test.YtmfjahmkoaijeaaDoorRows
import GoSem.ClaimSeven
namespace Go.Proofs.YtmfjahmkoaijeaaDoor
namespace Rows

/-- THE TIED CARD OF 'jigsawlaw04.SetsCards'. -/
def setsCardsCard : Claim7 := { stood := { row := setsCardsRow, standIns := [], harness := (true, "e1176488953e794b81421c5ee0fbca3c2874f9711c6f5bb6295bb42338cc4f00"), looks := true }, kinds := [], alts := [], laidByText := true, laidKinds := [.data, .data, .data, .data, .sentinel, .sentinel, .pinned], laidTests := true, laidLooks := .later }
def SetsCardsCardSaid : Prop := Claim7.holds Tryd.pinned (.plain (OpenSpec.ofChange setsCardsSpec)) setsCardsCard

/-- THE SECOND FORM's CARD OF 'jigsawlaw04.SetsCards'. -/
def setsCardsUptoCard : Claim7 := { stood := { row := setsCardsUptoRow, standIns := [], harness := (true, "e1176488953e794b81421c5ee0fbca3c2874f9711c6f5bb6295bb42338cc4f00"), looks := true }, kinds := [], alts := [], laidByText := true, laidKinds := [.data, .data, .data, .data, .sentinel, .sentinel, .pinned], laidTests := true, laidLooks := .later }
def SetsCardsUptoCardSaid : Prop := Claim7.holds Tryd.pinned (.plain (OpenSpec.upto setsCardsSpec)) setsCardsUptoCard
end Rows
end Go.Proofs.YtmfjahmkoaijeaaDoor
