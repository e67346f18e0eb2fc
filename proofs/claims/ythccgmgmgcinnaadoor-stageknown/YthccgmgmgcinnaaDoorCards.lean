/-
  DERIVED. GIVEN WITH THE SEED: THE CARDS: each row of YthccgmgmgcinnaaDoorRows.lean that lists a variable, with what it lists TIED to the program's text (the seventh form; the later family's looks); each row that meets fmt, with fmt's text TOLD by the authors' own Lean function (tested against real Go, not proved from fmt's source: count such statements apart). THE CARD IS WHAT COUNTS. Prove the row's statement (the work); the ties are given (YthccgmgmgcinnaaDoorTie.lean); close each card by the builder's one call (the guide's Derived/Test/ToyasCard.lean, 'card_holds'). Laid BY PROGRAM, IN A SANDBOX (cutbox-door.mjs). By AI agents, Wed Nov 11 2026. No macro, syntax, notation, axiom, sorry.
-/
import Derived.Test.YthccgmgmgcinnaaDoorRows
import GoSem.ClaimSeven
namespace Go.Proofs.YthccgmgmgcinnaaDoor
namespace Rows

/-- THE TIED CARD OF 'thyrsuslaw10.StagePower'. -/
def stagePowerCard : Claim7 := { stood := { row := stagePowerRow, standIns := [], harness := (true, "e97f8189f6778f323e879d09873489115d2bfe36ec7512303fc4476472b4e367"), looks := false }, kinds := [], alts := [], laidByText := true, laidKinds := [.data], laidTests := true, laidLooks := .later }
def StagePowerCardSaid : Prop := Claim7.holds Tryd.pinned (.plain (OpenSpec.ofChange stagePowerSpec)) stagePowerCard

/-- THE TIED CARD OF 'thyrsuslaw10.StageKnown'. -/
def stageKnownCard : Claim7 := { stood := { row := stageKnownRow, standIns := [], harness := (true, "e97f8189f6778f323e879d09873489115d2bfe36ec7512303fc4476472b4e367"), looks := false }, kinds := [], alts := [], laidByText := true, laidKinds := [.data], laidTests := true, laidLooks := .later }
def StageKnownCardSaid : Prop := Claim7.holds Tryd.pinned (.plain (OpenSpec.ofChange stageKnownSpec)) stageKnownCard

/-- THE TIED CARD OF 'thyrsuslaw10.StageTwice'. -/
def stageTwiceCard : Claim7 := { stood := { row := stageTwiceRow, standIns := [], harness := (true, "e97f8189f6778f323e879d09873489115d2bfe36ec7512303fc4476472b4e367"), looks := false }, kinds := [], alts := [], laidByText := true, laidKinds := [.data], laidTests := true, laidLooks := .later }
def StageTwiceCardSaid : Prop := Claim7.holds Tryd.pinned (.plain (OpenSpec.ofChange stageTwiceSpec)) stageTwiceCard

/-- THE SECOND FORM's CARD OF 'thyrsuslaw10.StagePower'. -/
def stagePowerUptoCard : Claim7 := { stood := { row := stagePowerUptoRow, standIns := [], harness := (true, "e97f8189f6778f323e879d09873489115d2bfe36ec7512303fc4476472b4e367"), looks := false }, kinds := [], alts := [], laidByText := true, laidKinds := [.data], laidTests := true, laidLooks := .later }
def StagePowerUptoCardSaid : Prop := Claim7.holds Tryd.pinned (.plain (OpenSpec.upto stagePowerSpec)) stagePowerUptoCard

/-- THE SECOND FORM's CARD OF 'thyrsuslaw10.StageKnown'. -/
def stageKnownUptoCard : Claim7 := { stood := { row := stageKnownUptoRow, standIns := [], harness := (true, "e97f8189f6778f323e879d09873489115d2bfe36ec7512303fc4476472b4e367"), looks := false }, kinds := [], alts := [], laidByText := true, laidKinds := [.data], laidTests := true, laidLooks := .later }
def StageKnownUptoCardSaid : Prop := Claim7.holds Tryd.pinned (.plain (OpenSpec.upto stageKnownSpec)) stageKnownUptoCard

/-- THE SECOND FORM's CARD OF 'thyrsuslaw10.StageTwice'. -/
def stageTwiceUptoCard : Claim7 := { stood := { row := stageTwiceUptoRow, standIns := [], harness := (true, "e97f8189f6778f323e879d09873489115d2bfe36ec7512303fc4476472b4e367"), looks := false }, kinds := [], alts := [], laidByText := true, laidKinds := [.data], laidTests := true, laidLooks := .later }
def StageTwiceUptoCardSaid : Prop := Claim7.holds Tryd.pinned (.plain (OpenSpec.upto stageTwiceSpec)) stageTwiceUptoCard
end Rows
end Go.Proofs.YthccgmgmgcinnaaDoor
