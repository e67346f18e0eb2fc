/-
  DERIVED. GIVEN WITH THE SEED: THE CARDS: each row of YtcgjnnpgpfmjgaaGreatDoorRows.lean that lists a variable, with what it lists TIED to the program's text (the seventh form; the later family's looks); each row that meets fmt, with fmt's text TOLD by the authors' own Lean function (tested against real Go, not proved from fmt's source: count such statements apart). THE CARD IS WHAT COUNTS. Prove the row's statement (the work); the ties are given (YtcgjnnpgpfmjgaaGreatDoorTie.lean); close each card by the builder's one call (the guide's Derived/Test/ToyasCard.lean, 'card_holds'). Laid BY PROGRAM, IN A SANDBOX (cutbox-door.mjs). By AI agents, Wed Nov 11 2026. No macro, syntax, notation, axiom, sorry.
-/
import Derived.Test.YtcgjnnpgpfmjgaaGreatDoorRows
import GoSem.ClaimSeven
namespace Go.Proofs.YtcgjnnpgpfmjgaaGreatDoor
namespace Rows

/-- THE TIED CARD OF 'thyrsuslaw7.KernelMeta'. -/
def kernelMetaCard : Claim7 := { stood := { row := kernelMetaRow, standIns := [], harness := (true, "4fa1fa504c2afb5987ab8c6458350b771a364e94729f978a854469dbbabefee7"), looks := false }, kinds := [], alts := [], laidByText := true, laidKinds := [.data, .data, .data], laidTests := true, laidLooks := .later }
def KernelMetaCardSaid : Prop := Claim7.holds Tryz.pinned (.plain (OpenSpec.ofChange kernelMetaSpec)) kernelMetaCard

/-- THE TIED CARD OF 'thyrsuslaw7.KernelObject'. -/
def kernelObjectCard : Claim7 := { stood := { row := kernelObjectRow, standIns := [], harness := (true, "4fa1fa504c2afb5987ab8c6458350b771a364e94729f978a854469dbbabefee7"), looks := false }, kinds := [], alts := [], laidByText := true, laidKinds := [.data, .data, .data], laidTests := true, laidLooks := .later }
def KernelObjectCardSaid : Prop := Claim7.holds Tryz.pinned (.plain (OpenSpec.ofChange kernelObjectSpec)) kernelObjectCard

/-- THE TIED CARD OF 'thyrsuslaw7.KernelRec'. -/
def kernelRecCard : Claim7 := { stood := { row := kernelRecRow, standIns := [], harness := (true, "4fa1fa504c2afb5987ab8c6458350b771a364e94729f978a854469dbbabefee7"), looks := false }, kinds := [], alts := [], laidByText := true, laidKinds := [.data, .data, .data], laidTests := true, laidLooks := .later }
def KernelRecCardSaid : Prop := Claim7.holds Tryz.pinned (.plain (OpenSpec.ofChange kernelRecSpec)) kernelRecCard

/-- THE TIED CARD OF 'thyrsuslaw7.KernelScope'. -/
def kernelScopeCard : Claim7 := { stood := { row := kernelScopeRow, standIns := [], harness := (true, "4fa1fa504c2afb5987ab8c6458350b771a364e94729f978a854469dbbabefee7"), looks := false }, kinds := [], alts := [], laidByText := true, laidKinds := [.data, .data, .data], laidTests := true, laidLooks := .later }
def KernelScopeCardSaid : Prop := Claim7.holds Tryz.pinned (.plain (OpenSpec.ofChange kernelScopeSpec)) kernelScopeCard

/-- THE SECOND FORM's CARD OF 'thyrsuslaw7.KernelMeta'. -/
def kernelMetaUptoCard : Claim7 := { stood := { row := kernelMetaUptoRow, standIns := [], harness := (true, "4fa1fa504c2afb5987ab8c6458350b771a364e94729f978a854469dbbabefee7"), looks := false }, kinds := [], alts := [], laidByText := true, laidKinds := [.data, .data, .data], laidTests := true, laidLooks := .later }
def KernelMetaUptoCardSaid : Prop := Claim7.holds Tryz.pinned (.plain (OpenSpec.upto kernelMetaSpec)) kernelMetaUptoCard

/-- THE SECOND FORM's CARD OF 'thyrsuslaw7.KernelObject'. -/
def kernelObjectUptoCard : Claim7 := { stood := { row := kernelObjectUptoRow, standIns := [], harness := (true, "4fa1fa504c2afb5987ab8c6458350b771a364e94729f978a854469dbbabefee7"), looks := false }, kinds := [], alts := [], laidByText := true, laidKinds := [.data, .data, .data], laidTests := true, laidLooks := .later }
def KernelObjectUptoCardSaid : Prop := Claim7.holds Tryz.pinned (.plain (OpenSpec.upto kernelObjectSpec)) kernelObjectUptoCard

/-- THE SECOND FORM's CARD OF 'thyrsuslaw7.KernelRec'. -/
def kernelRecUptoCard : Claim7 := { stood := { row := kernelRecUptoRow, standIns := [], harness := (true, "4fa1fa504c2afb5987ab8c6458350b771a364e94729f978a854469dbbabefee7"), looks := false }, kinds := [], alts := [], laidByText := true, laidKinds := [.data, .data, .data], laidTests := true, laidLooks := .later }
def KernelRecUptoCardSaid : Prop := Claim7.holds Tryz.pinned (.plain (OpenSpec.upto kernelRecSpec)) kernelRecUptoCard

/-- THE SECOND FORM's CARD OF 'thyrsuslaw7.KernelScope'. -/
def kernelScopeUptoCard : Claim7 := { stood := { row := kernelScopeUptoRow, standIns := [], harness := (true, "4fa1fa504c2afb5987ab8c6458350b771a364e94729f978a854469dbbabefee7"), looks := false }, kinds := [], alts := [], laidByText := true, laidKinds := [.data, .data, .data], laidTests := true, laidLooks := .later }
def KernelScopeUptoCardSaid : Prop := Claim7.holds Tryz.pinned (.plain (OpenSpec.upto kernelScopeSpec)) kernelScopeUptoCard
end Rows
end Go.Proofs.YtcgjnnpgpfmjgaaGreatDoor
