/-
  DERIVED. GIVEN WITH THE SEED: THE CARDS: each row of YthkliicmoandmaaGreatDoorRows.lean that lists a variable, with what it lists TIED to the program's text (the seventh form; the later family's looks); each row that meets fmt, with fmt's text TOLD by the authors' own Lean function (tested against real Go, not proved from fmt's source: count such statements apart). THE CARD IS WHAT COUNTS. Prove the row's statement (the work); the ties are given (YthkliicmoandmaaGreatDoorTie.lean); close each card by the builder's one call (the guide's Derived/Test/ToyasCard.lean, 'card_holds'). Laid BY PROGRAM, IN A SANDBOX (cutbox-door.mjs). By AI agents, Wed Nov 11 2026. No macro, syntax, notation, axiom, sorry.
-/
import Derived.Test.YthkliicmoandmaaGreatDoorRows
import GoSem.ClaimSeven
namespace Go.Proofs.YthkliicmoandmaaGreatDoor
namespace Rows

/-- THE TIED CARD OF 'jigsawlaw19.BranchChooses'. -/
def branchChoosesCard : Claim7 := { stood := { row := branchChoosesRow, standIns := [], harness := (true, "3ec4b3313764ce30a08583b4e782d80c99f0c35bdba21b5d52f2466ffebd9e29"), looks := false }, kinds := [], alts := [], laidByText := true, laidKinds := [.data, .data, .data], laidTests := true, laidLooks := .later }
def BranchChoosesCardSaid : Prop := Claim7.holds Tryz.pinned (.plain (OpenSpec.ofChange branchChoosesSpec)) branchChoosesCard

/-- THE TIED CARD OF 'jigsawlaw19.BranchApplies'. -/
def branchAppliesCard : Claim7 := { stood := { row := branchAppliesRow, standIns := [], harness := (true, "3ec4b3313764ce30a08583b4e782d80c99f0c35bdba21b5d52f2466ffebd9e29"), looks := false }, kinds := [], alts := [], laidByText := true, laidKinds := [.data, .data, .data], laidTests := true, laidLooks := .later }
def BranchAppliesCardSaid : Prop := Claim7.holds Tryz.pinned (.plain (OpenSpec.ofChange branchAppliesSpec)) branchAppliesCard

/-- THE TIED CARD OF 'jigsawlaw19.BranchParts'. -/
def branchPartsCard : Claim7 := { stood := { row := branchPartsRow, standIns := [], harness := (true, "3ec4b3313764ce30a08583b4e782d80c99f0c35bdba21b5d52f2466ffebd9e29"), looks := false }, kinds := [], alts := [], laidByText := true, laidKinds := [.data, .data, .data], laidTests := true, laidLooks := .later }
def BranchPartsCardSaid : Prop := Claim7.holds Tryz.pinned (.plain (OpenSpec.ofChange branchPartsSpec)) branchPartsCard

/-- THE TIED CARD OF 'jigsawlaw19.BranchGoes'. -/
def branchGoesCard : Claim7 := { stood := { row := branchGoesRow, standIns := [], harness := (true, "3ec4b3313764ce30a08583b4e782d80c99f0c35bdba21b5d52f2466ffebd9e29"), looks := false }, kinds := [], alts := [], laidByText := true, laidKinds := [.data, .data, .data], laidTests := true, laidLooks := .later }
def BranchGoesCardSaid : Prop := Claim7.holds Tryz.pinned (.plain (OpenSpec.ofChange branchGoesSpec)) branchGoesCard

/-- THE TIED CARD OF 'jigsawlaw19.BranchAll'. -/
def branchAllCard : Claim7 := { stood := { row := branchAllRow, standIns := [], harness := (true, "3ec4b3313764ce30a08583b4e782d80c99f0c35bdba21b5d52f2466ffebd9e29"), looks := false }, kinds := [], alts := [], laidByText := true, laidKinds := [.data, .data, .data], laidTests := true, laidLooks := .later }
def BranchAllCardSaid : Prop := Claim7.holds Tryz.pinned (.plain (OpenSpec.ofChange branchAllSpec)) branchAllCard

/-- THE SECOND FORM's CARD OF 'jigsawlaw19.BranchChooses'. -/
def branchChoosesUptoCard : Claim7 := { stood := { row := branchChoosesUptoRow, standIns := [], harness := (true, "3ec4b3313764ce30a08583b4e782d80c99f0c35bdba21b5d52f2466ffebd9e29"), looks := false }, kinds := [], alts := [], laidByText := true, laidKinds := [.data, .data, .data], laidTests := true, laidLooks := .later }
def BranchChoosesUptoCardSaid : Prop := Claim7.holds Tryz.pinned (.plain (OpenSpec.upto branchChoosesSpec)) branchChoosesUptoCard

/-- THE SECOND FORM's CARD OF 'jigsawlaw19.BranchApplies'. -/
def branchAppliesUptoCard : Claim7 := { stood := { row := branchAppliesUptoRow, standIns := [], harness := (true, "3ec4b3313764ce30a08583b4e782d80c99f0c35bdba21b5d52f2466ffebd9e29"), looks := false }, kinds := [], alts := [], laidByText := true, laidKinds := [.data, .data, .data], laidTests := true, laidLooks := .later }
def BranchAppliesUptoCardSaid : Prop := Claim7.holds Tryz.pinned (.plain (OpenSpec.upto branchAppliesSpec)) branchAppliesUptoCard

/-- THE SECOND FORM's CARD OF 'jigsawlaw19.BranchParts'. -/
def branchPartsUptoCard : Claim7 := { stood := { row := branchPartsUptoRow, standIns := [], harness := (true, "3ec4b3313764ce30a08583b4e782d80c99f0c35bdba21b5d52f2466ffebd9e29"), looks := false }, kinds := [], alts := [], laidByText := true, laidKinds := [.data, .data, .data], laidTests := true, laidLooks := .later }
def BranchPartsUptoCardSaid : Prop := Claim7.holds Tryz.pinned (.plain (OpenSpec.upto branchPartsSpec)) branchPartsUptoCard

/-- THE SECOND FORM's CARD OF 'jigsawlaw19.BranchGoes'. -/
def branchGoesUptoCard : Claim7 := { stood := { row := branchGoesUptoRow, standIns := [], harness := (true, "3ec4b3313764ce30a08583b4e782d80c99f0c35bdba21b5d52f2466ffebd9e29"), looks := false }, kinds := [], alts := [], laidByText := true, laidKinds := [.data, .data, .data], laidTests := true, laidLooks := .later }
def BranchGoesUptoCardSaid : Prop := Claim7.holds Tryz.pinned (.plain (OpenSpec.upto branchGoesSpec)) branchGoesUptoCard

/-- THE SECOND FORM's CARD OF 'jigsawlaw19.BranchAll'. -/
def branchAllUptoCard : Claim7 := { stood := { row := branchAllUptoRow, standIns := [], harness := (true, "3ec4b3313764ce30a08583b4e782d80c99f0c35bdba21b5d52f2466ffebd9e29"), looks := false }, kinds := [], alts := [], laidByText := true, laidKinds := [.data, .data, .data], laidTests := true, laidLooks := .later }
def BranchAllUptoCardSaid : Prop := Claim7.holds Tryz.pinned (.plain (OpenSpec.upto branchAllSpec)) branchAllUptoCard
end Rows
end Go.Proofs.YthkliicmoandmaaGreatDoor
