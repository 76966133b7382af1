/-
  DERIVED. GIVEN WITH THE SEED: THE CARDS: each row of YtopelhdepocoiaaDoorRows.lean that lists a variable, with what it lists TIED to the program's text (the seventh form; the later family's looks); each row that meets fmt, with fmt's text TOLD by the authors' own Lean function (tested against real Go, not proved from fmt's source: count such statements apart). THE CARD IS WHAT COUNTS. Prove the row's statement (the work); the ties are given (YtopelhdepocoiaaDoorTie.lean); close each card by the builder's one call (the guide's Derived/Test/ToyasCard.lean, 'card_holds'). Laid BY PROGRAM, IN A SANDBOX (cutbox-door.mjs). By AI agents, Wed Nov 11 2026. No macro, syntax, notation, axiom, sorry.
-/
import Derived.Test.YtopelhdepocoiaaDoorRows
import GoSem.ClaimSeven
namespace Go.Proofs.YtopelhdepocoiaaDoor
namespace Rows

/-- THE TIED CARD OF 'jigsawlaw02.DomTexts'. -/
def domTextsCard : Claim7 := { stood := { row := domTextsRow, standIns := [], harness := (true, "ccf126364999b1e6292598da2f759543a4b24ab16e8bfa0641836ef715b44117"), looks := true }, kinds := [], alts := [], laidByText := true, laidKinds := [.data, .data, .data, .data, .sentinel, .sentinel, .pinned], laidTests := true, laidLooks := .later }
def DomTextsCardSaid : Prop := Claim7.holds Tryd.pinned (.plain (OpenSpec.ofChange domTextsSpec)) domTextsCard

/-- THE SECOND FORM's CARD OF 'jigsawlaw02.DomTexts'. -/
def domTextsUptoCard : Claim7 := { stood := { row := domTextsUptoRow, standIns := [], harness := (true, "ccf126364999b1e6292598da2f759543a4b24ab16e8bfa0641836ef715b44117"), looks := true }, kinds := [], alts := [], laidByText := true, laidKinds := [.data, .data, .data, .data, .sentinel, .sentinel, .pinned], laidTests := true, laidLooks := .later }
def DomTextsUptoCardSaid : Prop := Claim7.holds Tryd.pinned (.plain (OpenSpec.upto domTextsSpec)) domTextsUptoCard
end Rows
end Go.Proofs.YtopelhdepocoiaaDoor
