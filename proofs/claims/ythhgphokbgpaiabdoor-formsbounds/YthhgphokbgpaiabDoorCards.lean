/-
  DERIVED. GIVEN WITH THE SEED: THE CARDS: each row of YthhgphokbgpaiabDoorRows.lean that lists a variable, with what it lists TIED to the program's text (the seventh form; the later family's looks); each row that meets fmt, with fmt's text TOLD by the authors' own Lean function (tested against real Go, not proved from fmt's source: count such statements apart). THE CARD IS WHAT COUNTS. Prove the row's statement (the work); the ties are given (YthhgphokbgpaiabDoorTie.lean); close each card by the builder's one call (the guide's Derived/Test/ToyasCard.lean, 'card_holds'). Laid BY PROGRAM, IN A SANDBOX (cutbox-door.mjs). By AI agents, Wed Nov 11 2026. No macro, syntax, notation, axiom, sorry.
-/
import Derived.Test.YthhgphokbgpaiabDoorRows
import GoSem.ClaimSeven
namespace Go.Proofs.YthhgphokbgpaiabDoor
namespace Rows

/-- THE TIED CARD OF 'thyrsuslaw3.FormsBounds'. -/
def formsBoundsCard : Claim7 := { stood := { row := formsBoundsRow, standIns := [], harness := (true, "4739eaf015ea3fea011f7b39165b738e7102823c1fc9467c3ffbe49765151232"), looks := true }, kinds := [], alts := [], laidByText := true, laidKinds := [.data, .data, .data, .sentinel, .sentinel], laidTests := true, laidLooks := .later }
def FormsBoundsCardSaid : Prop := Claim7.holds Tryd.pinned (.plain (OpenSpec.ofChange formsBoundsSpec)) formsBoundsCard

/-- THE SECOND FORM's CARD OF 'thyrsuslaw3.FormsBounds'. -/
def formsBoundsUptoCard : Claim7 := { stood := { row := formsBoundsUptoRow, standIns := [], harness := (true, "4739eaf015ea3fea011f7b39165b738e7102823c1fc9467c3ffbe49765151232"), looks := true }, kinds := [], alts := [], laidByText := true, laidKinds := [.data, .data, .data, .sentinel, .sentinel], laidTests := true, laidLooks := .later }
def FormsBoundsUptoCardSaid : Prop := Claim7.holds Tryd.pinned (.plain (OpenSpec.upto formsBoundsSpec)) formsBoundsUptoCard
end Rows
end Go.Proofs.YthhgphokbgpaiabDoor
