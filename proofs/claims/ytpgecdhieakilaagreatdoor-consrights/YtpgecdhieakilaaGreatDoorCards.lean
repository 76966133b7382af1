/-
  DERIVED. GIVEN WITH THE SEED: THE CARDS: each row of YtpgecdhieakilaaGreatDoorRows.lean that lists a variable, with what it lists TIED to the program's text (the seventh form; the later family's looks); each row that meets fmt, with fmt's text TOLD by the authors' own Lean function (tested against real Go, not proved from fmt's source: count such statements apart). THE CARD IS WHAT COUNTS. Prove the row's statement (the work); the ties are given (YtpgecdhieakilaaGreatDoorTie.lean); close each card by the builder's one call (the guide's Derived/Test/ToyasCard.lean, 'card_holds'). Laid BY PROGRAM, IN A SANDBOX (cutbox-door.mjs). By AI agents, Wed Nov 11 2026. No macro, syntax, notation, axiom, sorry.
-/
import Derived.Test.YtpgecdhieakilaaGreatDoorRows
import GoSem.ClaimSeven
namespace Go.Proofs.YtpgecdhieakilaaGreatDoor
namespace Rows

/-- THE TIED CARD OF 'jigsawlaw05.ConsNames'. -/
def consNamesCard : Claim7 := { stood := { row := consNamesRow, standIns := [], harness := (true, "cef7eb146087fc9eab390105723404fad8e8f765d5bfd7871ee042c7ddd5e572"), looks := false }, kinds := [], alts := [], laidByText := true, laidKinds := [.data, .data, .data, .data, .pinned], laidTests := true, laidLooks := .later }
def ConsNamesCardSaid : Prop := Claim7.holds Tryz.pinned (.plain (OpenSpec.ofChange consNamesSpec)) consNamesCard

/-- THE TIED CARD OF 'jigsawlaw05.ConsRights'. -/
def consRightsCard : Claim7 := { stood := { row := consRightsRow, standIns := [], harness := (true, "cef7eb146087fc9eab390105723404fad8e8f765d5bfd7871ee042c7ddd5e572"), looks := false }, kinds := [], alts := [], laidByText := true, laidKinds := [.data, .data, .data, .data, .pinned], laidTests := true, laidLooks := .later }
def ConsRightsCardSaid : Prop := Claim7.holds Tryz.pinned (.plain (OpenSpec.ofChange consRightsSpec)) consRightsCard

/-- THE TIED CARD OF 'jigsawlaw05.ConsTerms'. -/
def consTermsCard : Claim7 := { stood := { row := consTermsRow, standIns := [], harness := (true, "cef7eb146087fc9eab390105723404fad8e8f765d5bfd7871ee042c7ddd5e572"), looks := false }, kinds := [], alts := [], laidByText := true, laidKinds := [.data, .data, .data, .data, .pinned], laidTests := true, laidLooks := .later }
def ConsTermsCardSaid : Prop := Claim7.holds Tryz.pinned (.plain (OpenSpec.ofChange consTermsSpec)) consTermsCard

/-- THE TIED CARD OF 'jigsawlaw05.ConsMore'. -/
def consMoreCard : Claim7 := { stood := { row := consMoreRow, standIns := [], harness := (true, "cef7eb146087fc9eab390105723404fad8e8f765d5bfd7871ee042c7ddd5e572"), looks := false }, kinds := [], alts := [], laidByText := true, laidKinds := [.data, .data, .data, .data, .pinned], laidTests := true, laidLooks := .later }
def ConsMoreCardSaid : Prop := Claim7.holds Tryz.pinned (.plain (OpenSpec.ofChange consMoreSpec)) consMoreCard

/-- THE TIED CARD OF 'jigsawlaw05.ConsTurns'. -/
def consTurnsCard : Claim7 := { stood := { row := consTurnsRow, standIns := [], harness := (true, "cef7eb146087fc9eab390105723404fad8e8f765d5bfd7871ee042c7ddd5e572"), looks := false }, kinds := [], alts := [], laidByText := true, laidKinds := [.data, .data, .data, .data, .pinned], laidTests := true, laidLooks := .later }
def ConsTurnsCardSaid : Prop := Claim7.holds Tryz.pinned (.plain (OpenSpec.ofChange consTurnsSpec)) consTurnsCard

/-- THE SECOND FORM's CARD OF 'jigsawlaw05.ConsNames'. -/
def consNamesUptoCard : Claim7 := { stood := { row := consNamesUptoRow, standIns := [], harness := (true, "cef7eb146087fc9eab390105723404fad8e8f765d5bfd7871ee042c7ddd5e572"), looks := false }, kinds := [], alts := [], laidByText := true, laidKinds := [.data, .data, .data, .data, .pinned], laidTests := true, laidLooks := .later }
def ConsNamesUptoCardSaid : Prop := Claim7.holds Tryz.pinned (.plain (OpenSpec.upto consNamesSpec)) consNamesUptoCard

/-- THE SECOND FORM's CARD OF 'jigsawlaw05.ConsRights'. -/
def consRightsUptoCard : Claim7 := { stood := { row := consRightsUptoRow, standIns := [], harness := (true, "cef7eb146087fc9eab390105723404fad8e8f765d5bfd7871ee042c7ddd5e572"), looks := false }, kinds := [], alts := [], laidByText := true, laidKinds := [.data, .data, .data, .data, .pinned], laidTests := true, laidLooks := .later }
def ConsRightsUptoCardSaid : Prop := Claim7.holds Tryz.pinned (.plain (OpenSpec.upto consRightsSpec)) consRightsUptoCard

/-- THE SECOND FORM's CARD OF 'jigsawlaw05.ConsTerms'. -/
def consTermsUptoCard : Claim7 := { stood := { row := consTermsUptoRow, standIns := [], harness := (true, "cef7eb146087fc9eab390105723404fad8e8f765d5bfd7871ee042c7ddd5e572"), looks := false }, kinds := [], alts := [], laidByText := true, laidKinds := [.data, .data, .data, .data, .pinned], laidTests := true, laidLooks := .later }
def ConsTermsUptoCardSaid : Prop := Claim7.holds Tryz.pinned (.plain (OpenSpec.upto consTermsSpec)) consTermsUptoCard

/-- THE SECOND FORM's CARD OF 'jigsawlaw05.ConsMore'. -/
def consMoreUptoCard : Claim7 := { stood := { row := consMoreUptoRow, standIns := [], harness := (true, "cef7eb146087fc9eab390105723404fad8e8f765d5bfd7871ee042c7ddd5e572"), looks := false }, kinds := [], alts := [], laidByText := true, laidKinds := [.data, .data, .data, .data, .pinned], laidTests := true, laidLooks := .later }
def ConsMoreUptoCardSaid : Prop := Claim7.holds Tryz.pinned (.plain (OpenSpec.upto consMoreSpec)) consMoreUptoCard

/-- THE SECOND FORM's CARD OF 'jigsawlaw05.ConsTurns'. -/
def consTurnsUptoCard : Claim7 := { stood := { row := consTurnsUptoRow, standIns := [], harness := (true, "cef7eb146087fc9eab390105723404fad8e8f765d5bfd7871ee042c7ddd5e572"), looks := false }, kinds := [], alts := [], laidByText := true, laidKinds := [.data, .data, .data, .data, .pinned], laidTests := true, laidLooks := .later }
def ConsTurnsUptoCardSaid : Prop := Claim7.holds Tryz.pinned (.plain (OpenSpec.upto consTurnsSpec)) consTurnsUptoCard
end Rows
end Go.Proofs.YtpgecdhieakilaaGreatDoor
