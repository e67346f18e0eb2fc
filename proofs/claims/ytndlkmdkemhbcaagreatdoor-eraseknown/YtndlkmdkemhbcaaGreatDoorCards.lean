/-
  DERIVED. GIVEN WITH THE SEED: THE CARDS: each row of YtndlkmdkemhbcaaGreatDoorRows.lean that lists a variable, with what it lists TIED to the program's text (the seventh form; the later family's looks); each row that meets fmt, with fmt's text TOLD by the authors' own Lean function (tested against real Go, not proved from fmt's source: count such statements apart). THE CARD IS WHAT COUNTS. Prove the row's statement (the work); the ties are given (YtndlkmdkemhbcaaGreatDoorTie.lean); close each card by the builder's one call (the guide's Derived/Test/ToyasCard.lean, 'card_holds'). Laid BY PROGRAM, IN A SANDBOX (cutbox-door.mjs). By AI agents, Wed Nov 11 2026. No macro, syntax, notation, axiom, sorry.
-/
import Derived.Test.YtndlkmdkemhbcaaGreatDoorRows
import GoSem.ClaimSeven
namespace Go.Proofs.YtndlkmdkemhbcaaGreatDoor
namespace Rows

/-- THE TIED CARD OF 'thyrsuslaw9.EraseTerms'. -/
def eraseTermsCard : Claim7 := { stood := { row := eraseTermsRow, standIns := [], harness := (true, "8df104ed109bad5bf06a75633acb4cc30bf952166f408e2954db279ef43cbe4a"), looks := true }, kinds := [], alts := [], laidByText := true, laidKinds := [.data, .data, .data, .sentinel, .sentinel, .data, .data, .data], laidTests := true, laidLooks := .later }
def EraseTermsCardSaid : Prop := Claim7.holds Tryz.pinned (.plain (OpenSpec.ofChange eraseTermsSpec)) eraseTermsCard

/-- THE TIED CARD OF 'thyrsuslaw9.EraseForms'. -/
def eraseFormsCard : Claim7 := { stood := { row := eraseFormsRow, standIns := [], harness := (true, "8df104ed109bad5bf06a75633acb4cc30bf952166f408e2954db279ef43cbe4a"), looks := true }, kinds := [], alts := [], laidByText := true, laidKinds := [.data, .data, .data, .sentinel, .sentinel], laidTests := true, laidLooks := .later }
def EraseFormsCardSaid : Prop := Claim7.holds Tryz.pinned (.plain (OpenSpec.ofChange eraseFormsSpec)) eraseFormsCard

/-- THE TIED CARD OF 'thyrsuslaw9.EraseSaid'. -/
def eraseSaidCard : Claim7 := { stood := { row := eraseSaidRow, standIns := [], harness := (true, "8df104ed109bad5bf06a75633acb4cc30bf952166f408e2954db279ef43cbe4a"), looks := true }, kinds := [], alts := [], laidByText := true, laidKinds := [.data, .data, .data, .sentinel, .sentinel, .data, .data, .data], laidTests := true, laidLooks := .later }
def EraseSaidCardSaid : Prop := Claim7.holds Tryz.pinned (.plain (OpenSpec.ofChange eraseSaidSpec)) eraseSaidCard

/-- THE TIED CARD OF 'thyrsuslaw9.EraseKnown'. -/
def eraseKnownCard : Claim7 := { stood := { row := eraseKnownRow, standIns := [], harness := (true, "8df104ed109bad5bf06a75633acb4cc30bf952166f408e2954db279ef43cbe4a"), looks := true }, kinds := [], alts := [], laidByText := true, laidKinds := [.data, .data, .data, .sentinel, .sentinel, .data, .data, .data], laidTests := true, laidLooks := .later }
def EraseKnownCardSaid : Prop := Claim7.holds Tryz.pinned (.plain (OpenSpec.ofChange eraseKnownSpec)) eraseKnownCard

/-- THE TIED CARD OF 'thyrsuslaw9.EraseShift'. -/
def eraseShiftCard : Claim7 := { stood := { row := eraseShiftRow, standIns := [], harness := (true, "8df104ed109bad5bf06a75633acb4cc30bf952166f408e2954db279ef43cbe4a"), looks := true }, kinds := [], alts := [], laidByText := true, laidKinds := [.data, .data, .data, .sentinel, .sentinel, .data, .data, .data], laidTests := true, laidLooks := .later }
def EraseShiftCardSaid : Prop := Claim7.holds Tryz.pinned (.plain (OpenSpec.ofChange eraseShiftSpec)) eraseShiftCard

/-- THE TIED CARD OF 'thyrsuslaw9.EraseNames'. -/
def eraseNamesCard : Claim7 := { stood := { row := eraseNamesRow, standIns := [], harness := (true, "8df104ed109bad5bf06a75633acb4cc30bf952166f408e2954db279ef43cbe4a"), looks := true }, kinds := [], alts := [], laidByText := true, laidKinds := [.data, .data, .data, .sentinel, .sentinel], laidTests := true, laidLooks := .later }
def EraseNamesCardSaid : Prop := Claim7.holds Tryz.pinned (.plain (OpenSpec.ofChange eraseNamesSpec)) eraseNamesCard

/-- THE SECOND FORM's CARD OF 'thyrsuslaw9.EraseTerms'. -/
def eraseTermsUptoCard : Claim7 := { stood := { row := eraseTermsUptoRow, standIns := [], harness := (true, "8df104ed109bad5bf06a75633acb4cc30bf952166f408e2954db279ef43cbe4a"), looks := true }, kinds := [], alts := [], laidByText := true, laidKinds := [.data, .data, .data, .sentinel, .sentinel, .data, .data, .data], laidTests := true, laidLooks := .later }
def EraseTermsUptoCardSaid : Prop := Claim7.holds Tryz.pinned (.plain (OpenSpec.upto eraseTermsSpec)) eraseTermsUptoCard

/-- THE SECOND FORM's CARD OF 'thyrsuslaw9.EraseForms'. -/
def eraseFormsUptoCard : Claim7 := { stood := { row := eraseFormsUptoRow, standIns := [], harness := (true, "8df104ed109bad5bf06a75633acb4cc30bf952166f408e2954db279ef43cbe4a"), looks := true }, kinds := [], alts := [], laidByText := true, laidKinds := [.data, .data, .data, .sentinel, .sentinel], laidTests := true, laidLooks := .later }
def EraseFormsUptoCardSaid : Prop := Claim7.holds Tryz.pinned (.plain (OpenSpec.upto eraseFormsSpec)) eraseFormsUptoCard

/-- THE SECOND FORM's CARD OF 'thyrsuslaw9.EraseSaid'. -/
def eraseSaidUptoCard : Claim7 := { stood := { row := eraseSaidUptoRow, standIns := [], harness := (true, "8df104ed109bad5bf06a75633acb4cc30bf952166f408e2954db279ef43cbe4a"), looks := true }, kinds := [], alts := [], laidByText := true, laidKinds := [.data, .data, .data, .sentinel, .sentinel, .data, .data, .data], laidTests := true, laidLooks := .later }
def EraseSaidUptoCardSaid : Prop := Claim7.holds Tryz.pinned (.plain (OpenSpec.upto eraseSaidSpec)) eraseSaidUptoCard

/-- THE SECOND FORM's CARD OF 'thyrsuslaw9.EraseKnown'. -/
def eraseKnownUptoCard : Claim7 := { stood := { row := eraseKnownUptoRow, standIns := [], harness := (true, "8df104ed109bad5bf06a75633acb4cc30bf952166f408e2954db279ef43cbe4a"), looks := true }, kinds := [], alts := [], laidByText := true, laidKinds := [.data, .data, .data, .sentinel, .sentinel, .data, .data, .data], laidTests := true, laidLooks := .later }
def EraseKnownUptoCardSaid : Prop := Claim7.holds Tryz.pinned (.plain (OpenSpec.upto eraseKnownSpec)) eraseKnownUptoCard

/-- THE SECOND FORM's CARD OF 'thyrsuslaw9.EraseShift'. -/
def eraseShiftUptoCard : Claim7 := { stood := { row := eraseShiftUptoRow, standIns := [], harness := (true, "8df104ed109bad5bf06a75633acb4cc30bf952166f408e2954db279ef43cbe4a"), looks := true }, kinds := [], alts := [], laidByText := true, laidKinds := [.data, .data, .data, .sentinel, .sentinel, .data, .data, .data], laidTests := true, laidLooks := .later }
def EraseShiftUptoCardSaid : Prop := Claim7.holds Tryz.pinned (.plain (OpenSpec.upto eraseShiftSpec)) eraseShiftUptoCard

/-- THE SECOND FORM's CARD OF 'thyrsuslaw9.EraseNames'. -/
def eraseNamesUptoCard : Claim7 := { stood := { row := eraseNamesUptoRow, standIns := [], harness := (true, "8df104ed109bad5bf06a75633acb4cc30bf952166f408e2954db279ef43cbe4a"), looks := true }, kinds := [], alts := [], laidByText := true, laidKinds := [.data, .data, .data, .sentinel, .sentinel], laidTests := true, laidLooks := .later }
def EraseNamesUptoCardSaid : Prop := Claim7.holds Tryz.pinned (.plain (OpenSpec.upto eraseNamesSpec)) eraseNamesUptoCard
end Rows
end Go.Proofs.YtndlkmdkemhbcaaGreatDoor
