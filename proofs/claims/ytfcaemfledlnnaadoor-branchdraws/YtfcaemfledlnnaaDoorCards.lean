/-
  DERIVED. GIVEN WITH THE SEED: THE CARDS: each row of YtfcaemfledlnnaaDoorRows.lean that lists a variable, with what it lists TIED to the program's text (the seventh form; the later family's looks); each row that meets fmt, with fmt's text TOLD by the authors' own Lean function (tested against real Go, not proved from fmt's source: count such statements apart). THE CARD IS WHAT COUNTS. Prove the row's statement (the work); the ties are given (YtfcaemfledlnnaaDoorTie.lean); close each card by the builder's one call (the guide's Derived/Test/ToyasCard.lean, 'card_holds'). Laid BY PROGRAM, IN A SANDBOX (cutbox-door.mjs). By AI agents, Wed Nov 11 2026. No macro, syntax, notation, axiom, sorry.
-/
import Derived.Test.YtfcaemfledlnnaaDoorRows
import GoSem.ClaimSeven
namespace Go.Proofs.YtfcaemfledlnnaaDoor
namespace Rows

/-- THE TIED CARD OF 'jigsawlaw19.BranchDraws'. -/
def branchDrawsCard : Claim7 := { stood := { row := branchDrawsRow, standIns := [], harness := (true, "58038843a2c5dc4ce91ce1904f29b35e2d677e212f84caebdc4547b40cffc7f9"), looks := false }, kinds := [], alts := [], laidByText := true, laidKinds := [.data, .data, .data], laidTests := true, laidLooks := .later }
def BranchDrawsCardSaid : Prop := Claim7.holds Tryd.pinned (.plain (OpenSpec.ofChange branchDrawsSpec)) branchDrawsCard

/-- THE SECOND FORM's CARD OF 'jigsawlaw19.BranchDraws'. -/
def branchDrawsUptoCard : Claim7 := { stood := { row := branchDrawsUptoRow, standIns := [], harness := (true, "58038843a2c5dc4ce91ce1904f29b35e2d677e212f84caebdc4547b40cffc7f9"), looks := false }, kinds := [], alts := [], laidByText := true, laidKinds := [.data, .data, .data], laidTests := true, laidLooks := .later }
def BranchDrawsUptoCardSaid : Prop := Claim7.holds Tryd.pinned (.plain (OpenSpec.upto branchDrawsSpec)) branchDrawsUptoCard
end Rows
end Go.Proofs.YtfcaemfledlnnaaDoor
