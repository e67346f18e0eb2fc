/-
  DERIVED. GIVEN WITH THE SEED: THE CARDS: each row of YtjiecahopdaghabDoorRows.lean that lists a variable, with what it lists TIED to the program's text (the seventh form; the later family's looks); each row that meets fmt, with fmt's text TOLD by the authors' own Lean function (tested against real Go, not proved from fmt's source: count such statements apart). THE CARD IS WHAT COUNTS. Prove the row's statement (the work); the ties are given (YtjiecahopdaghabDoorTie.lean); close each card by the builder's one call (the guide's Derived/Test/ToyasCard.lean, 'card_holds'). Laid BY PROGRAM, IN A SANDBOX (cutbox-door.mjs). By AI agents, Wed Nov 11 2026. No macro, syntax, notation, axiom, sorry.
-/
import Derived.Test.YtjiecahopdaghabDoorRows
import GoSem.ClaimSeven
namespace Go.Proofs.YtjiecahopdaghabDoor
namespace Rows

/-- THE TIED CARD OF 'thyrsuslaw5.NormStuck'. -/
def normStuckCard : Claim7 := { stood := { row := normStuckRow, standIns := [], harness := (true, "6e9d095d8cd1633158be4d66b0cca48c1744694eb5701a88ff9a40a0c9f4cddb"), looks := false }, kinds := [], alts := [], laidByText := true, laidKinds := [.data], laidTests := true, laidLooks := .later }
def NormStuckCardSaid : Prop := Claim7.holds Tryd.pinned (.plain (OpenSpec.ofChange normStuckSpec)) normStuckCard

/-- THE TIED CARD OF 'thyrsuslaw5.NormKnown'. -/
def normKnownCard : Claim7 := { stood := { row := normKnownRow, standIns := [], harness := (true, "6e9d095d8cd1633158be4d66b0cca48c1744694eb5701a88ff9a40a0c9f4cddb"), looks := false }, kinds := [], alts := [], laidByText := true, laidKinds := [.data], laidTests := true, laidLooks := .later }
def NormKnownCardSaid : Prop := Claim7.holds Tryd.pinned (.plain (OpenSpec.ofChange normKnownSpec)) normKnownCard

/-- THE TIED CARD OF 'thyrsuslaw5.NormParts'. -/
def normPartsCard : Claim7 := { stood := { row := normPartsRow, standIns := [], harness := (true, "6e9d095d8cd1633158be4d66b0cca48c1744694eb5701a88ff9a40a0c9f4cddb"), looks := false }, kinds := [], alts := [], laidByText := true, laidKinds := [.data], laidTests := true, laidLooks := .later }
def NormPartsCardSaid : Prop := Claim7.holds Tryd.pinned (.plain (OpenSpec.ofChange normPartsSpec)) normPartsCard

/-- THE TIED CARD OF 'thyrsuslaw5.NormShift'. -/
def normShiftCard : Claim7 := { stood := { row := normShiftRow, standIns := [], harness := (true, "6e9d095d8cd1633158be4d66b0cca48c1744694eb5701a88ff9a40a0c9f4cddb"), looks := false }, kinds := [], alts := [], laidByText := true, laidKinds := [.data], laidTests := true, laidLooks := .later }
def NormShiftCardSaid : Prop := Claim7.holds Tryd.pinned (.plain (OpenSpec.ofChange normShiftSpec)) normShiftCard

/-- THE TIED CARD OF 'thyrsuslaw5.NormSubst'. -/
def normSubstCard : Claim7 := { stood := { row := normSubstRow, standIns := [], harness := (true, "6e9d095d8cd1633158be4d66b0cca48c1744694eb5701a88ff9a40a0c9f4cddb"), looks := false }, kinds := [], alts := [], laidByText := true, laidKinds := [.data], laidTests := true, laidLooks := .later }
def NormSubstCardSaid : Prop := Claim7.holds Tryd.pinned (.plain (OpenSpec.ofChange normSubstSpec)) normSubstCard

/-- THE SECOND FORM's CARD OF 'thyrsuslaw5.NormStuck'. -/
def normStuckUptoCard : Claim7 := { stood := { row := normStuckUptoRow, standIns := [], harness := (true, "6e9d095d8cd1633158be4d66b0cca48c1744694eb5701a88ff9a40a0c9f4cddb"), looks := false }, kinds := [], alts := [], laidByText := true, laidKinds := [.data], laidTests := true, laidLooks := .later }
def NormStuckUptoCardSaid : Prop := Claim7.holds Tryd.pinned (.plain (OpenSpec.upto normStuckSpec)) normStuckUptoCard

/-- THE SECOND FORM's CARD OF 'thyrsuslaw5.NormKnown'. -/
def normKnownUptoCard : Claim7 := { stood := { row := normKnownUptoRow, standIns := [], harness := (true, "6e9d095d8cd1633158be4d66b0cca48c1744694eb5701a88ff9a40a0c9f4cddb"), looks := false }, kinds := [], alts := [], laidByText := true, laidKinds := [.data], laidTests := true, laidLooks := .later }
def NormKnownUptoCardSaid : Prop := Claim7.holds Tryd.pinned (.plain (OpenSpec.upto normKnownSpec)) normKnownUptoCard

/-- THE SECOND FORM's CARD OF 'thyrsuslaw5.NormParts'. -/
def normPartsUptoCard : Claim7 := { stood := { row := normPartsUptoRow, standIns := [], harness := (true, "6e9d095d8cd1633158be4d66b0cca48c1744694eb5701a88ff9a40a0c9f4cddb"), looks := false }, kinds := [], alts := [], laidByText := true, laidKinds := [.data], laidTests := true, laidLooks := .later }
def NormPartsUptoCardSaid : Prop := Claim7.holds Tryd.pinned (.plain (OpenSpec.upto normPartsSpec)) normPartsUptoCard

/-- THE SECOND FORM's CARD OF 'thyrsuslaw5.NormShift'. -/
def normShiftUptoCard : Claim7 := { stood := { row := normShiftUptoRow, standIns := [], harness := (true, "6e9d095d8cd1633158be4d66b0cca48c1744694eb5701a88ff9a40a0c9f4cddb"), looks := false }, kinds := [], alts := [], laidByText := true, laidKinds := [.data], laidTests := true, laidLooks := .later }
def NormShiftUptoCardSaid : Prop := Claim7.holds Tryd.pinned (.plain (OpenSpec.upto normShiftSpec)) normShiftUptoCard

/-- THE SECOND FORM's CARD OF 'thyrsuslaw5.NormSubst'. -/
def normSubstUptoCard : Claim7 := { stood := { row := normSubstUptoRow, standIns := [], harness := (true, "6e9d095d8cd1633158be4d66b0cca48c1744694eb5701a88ff9a40a0c9f4cddb"), looks := false }, kinds := [], alts := [], laidByText := true, laidKinds := [.data], laidTests := true, laidLooks := .later }
def NormSubstUptoCardSaid : Prop := Claim7.holds Tryd.pinned (.plain (OpenSpec.upto normSubstSpec)) normSubstUptoCard
end Rows
end Go.Proofs.YtjiecahopdaghabDoor
