/-
  DERIVED. GIVEN WITH THE SEED: THE CARDS: each row of YtpmaagafcpaajabDoorRows.lean that lists a variable, with what it lists TIED to the program's text (the seventh form; the later family's looks); each row that meets fmt, with fmt's text TOLD by the authors' own Lean function (tested against real Go, not proved from fmt's source: count such statements apart). THE CARD IS WHAT COUNTS. Prove the row's statement (the work); the ties are given (YtpmaagafcpaajabDoorTie.lean); close each card by the builder's one call (the guide's Derived/Test/ToyasCard.lean, 'card_holds'). Laid BY PROGRAM, IN A SANDBOX (cutbox-door.mjs). By AI agents, Wed Nov 11 2026. No macro, syntax, notation, axiom, sorry.
-/
import Derived.Test.YtpmaagafcpaajabDoorRows
import GoSem.ClaimSeven
namespace Go.Proofs.YtpmaagafcpaajabDoor
namespace Rows

/-- THE TIED CARD OF 'thyrsuslaw4.TermBounds'. -/
def termBoundsCard : Claim7 := { stood := { row := termBoundsRow, standIns := [], harness := (true, "746491ebe3d29e18f8d2758cc4a998f3b085dae80f7ad14d55b35dad550a5aca"), looks := false }, kinds := [], alts := [], laidByText := true, laidKinds := [.data, .data, .data, .data, .data, .data], laidTests := true, laidLooks := .later }
def TermBoundsCardSaid : Prop := Claim7.holds Tryd.pinned (.plain (OpenSpec.ofChange termBoundsSpec)) termBoundsCard

/-- THE TIED CARD OF 'thyrsuslaw4.TermKnown'. -/
def termKnownCard : Claim7 := { stood := { row := termKnownRow, standIns := [], harness := (true, "746491ebe3d29e18f8d2758cc4a998f3b085dae80f7ad14d55b35dad550a5aca"), looks := false }, kinds := [], alts := [], laidByText := true, laidKinds := [.data, .data, .data, .data, .data], laidTests := true, laidLooks := .later }
def TermKnownCardSaid : Prop := Claim7.holds Tryd.pinned (.plain (OpenSpec.ofChange termKnownSpec)) termKnownCard

/-- THE TIED CARD OF 'thyrsuslaw4.TermSizes'. -/
def termSizesCard : Claim7 := { stood := { row := termSizesRow, standIns := [], harness := (true, "746491ebe3d29e18f8d2758cc4a998f3b085dae80f7ad14d55b35dad550a5aca"), looks := false }, kinds := [], alts := [], laidByText := true, laidKinds := [.data, .data, .data, .data, .data], laidTests := true, laidLooks := .later }
def TermSizesCardSaid : Prop := Claim7.holds Tryd.pinned (.plain (OpenSpec.ofChange termSizesSpec)) termSizesCard

/-- THE TIED CARD OF 'thyrsuslaw4.TermUnder'. -/
def termUnderCard : Claim7 := { stood := { row := termUnderRow, standIns := [], harness := (true, "746491ebe3d29e18f8d2758cc4a998f3b085dae80f7ad14d55b35dad550a5aca"), looks := false }, kinds := [], alts := [], laidByText := true, laidKinds := [.data, .data, .data, .data, .data], laidTests := true, laidLooks := .later }
def TermUnderCardSaid : Prop := Claim7.holds Tryd.pinned (.plain (OpenSpec.ofChange termUnderSpec)) termUnderCard

/-- THE TIED CARD OF 'thyrsuslaw4.TermClosed'. -/
def termClosedCard : Claim7 := { stood := { row := termClosedRow, standIns := [], harness := (true, "746491ebe3d29e18f8d2758cc4a998f3b085dae80f7ad14d55b35dad550a5aca"), looks := false }, kinds := [], alts := [], laidByText := true, laidKinds := [.data, .data, .data, .data, .data], laidTests := true, laidLooks := .later }
def TermClosedCardSaid : Prop := Claim7.holds Tryd.pinned (.plain (OpenSpec.ofChange termClosedSpec)) termClosedCard

/-- THE SECOND FORM's CARD OF 'thyrsuslaw4.TermBounds'. -/
def termBoundsUptoCard : Claim7 := { stood := { row := termBoundsUptoRow, standIns := [], harness := (true, "746491ebe3d29e18f8d2758cc4a998f3b085dae80f7ad14d55b35dad550a5aca"), looks := false }, kinds := [], alts := [], laidByText := true, laidKinds := [.data, .data, .data, .data, .data, .data], laidTests := true, laidLooks := .later }
def TermBoundsUptoCardSaid : Prop := Claim7.holds Tryd.pinned (.plain (OpenSpec.upto termBoundsSpec)) termBoundsUptoCard

/-- THE SECOND FORM's CARD OF 'thyrsuslaw4.TermKnown'. -/
def termKnownUptoCard : Claim7 := { stood := { row := termKnownUptoRow, standIns := [], harness := (true, "746491ebe3d29e18f8d2758cc4a998f3b085dae80f7ad14d55b35dad550a5aca"), looks := false }, kinds := [], alts := [], laidByText := true, laidKinds := [.data, .data, .data, .data, .data], laidTests := true, laidLooks := .later }
def TermKnownUptoCardSaid : Prop := Claim7.holds Tryd.pinned (.plain (OpenSpec.upto termKnownSpec)) termKnownUptoCard

/-- THE SECOND FORM's CARD OF 'thyrsuslaw4.TermSizes'. -/
def termSizesUptoCard : Claim7 := { stood := { row := termSizesUptoRow, standIns := [], harness := (true, "746491ebe3d29e18f8d2758cc4a998f3b085dae80f7ad14d55b35dad550a5aca"), looks := false }, kinds := [], alts := [], laidByText := true, laidKinds := [.data, .data, .data, .data, .data], laidTests := true, laidLooks := .later }
def TermSizesUptoCardSaid : Prop := Claim7.holds Tryd.pinned (.plain (OpenSpec.upto termSizesSpec)) termSizesUptoCard

/-- THE SECOND FORM's CARD OF 'thyrsuslaw4.TermUnder'. -/
def termUnderUptoCard : Claim7 := { stood := { row := termUnderUptoRow, standIns := [], harness := (true, "746491ebe3d29e18f8d2758cc4a998f3b085dae80f7ad14d55b35dad550a5aca"), looks := false }, kinds := [], alts := [], laidByText := true, laidKinds := [.data, .data, .data, .data, .data], laidTests := true, laidLooks := .later }
def TermUnderUptoCardSaid : Prop := Claim7.holds Tryd.pinned (.plain (OpenSpec.upto termUnderSpec)) termUnderUptoCard

/-- THE SECOND FORM's CARD OF 'thyrsuslaw4.TermClosed'. -/
def termClosedUptoCard : Claim7 := { stood := { row := termClosedUptoRow, standIns := [], harness := (true, "746491ebe3d29e18f8d2758cc4a998f3b085dae80f7ad14d55b35dad550a5aca"), looks := false }, kinds := [], alts := [], laidByText := true, laidKinds := [.data, .data, .data, .data, .data], laidTests := true, laidLooks := .later }
def TermClosedUptoCardSaid : Prop := Claim7.holds Tryd.pinned (.plain (OpenSpec.upto termClosedSpec)) termClosedUptoCard
end Rows
end Go.Proofs.YtpmaagafcpaajabDoor
