/-
  DERIVED. GIVEN WITH THE SEED: THE CARDS: each row of YtplhinpjobindaaDoorRows.lean that lists a variable, with what it lists TIED to the program's text (the seventh form; the later family's looks); each row that meets fmt, with fmt's text TOLD by the authors' own Lean function (tested against real Go, not proved from fmt's source: count such statements apart). THE CARD IS WHAT COUNTS. Prove the row's statement (the work); the ties are given (YtplhinpjobindaaDoorTie.lean); close each card by the builder's one call (the guide's Derived/Test/ToyasCard.lean, 'card_holds'). Laid BY PROGRAM, IN A SANDBOX (cutbox-door.mjs). By AI agents, Wed Nov 11 2026. No macro, syntax, notation, axiom, sorry.
-/
import Derived.Test.YtplhinpjobindaaDoorRows
import GoSem.ClaimSeven
namespace Go.Proofs.YtplhinpjobindaaDoor
namespace Rows

/-- THE TIED CARD OF 'thyrsuslaw11.ObjKnown'. -/
def objKnownCard : Claim7 := { stood := { row := objKnownRow, standIns := [], harness := (true, "5d939f776fa269d05d1e986e318c68f04ee18b5553ca8c7e5d24a5dc91ee9e22"), looks := false }, kinds := [], alts := [], laidByText := true, laidKinds := [.data, .data, .data], laidTests := true, laidLooks := .later }
def ObjKnownCardSaid : Prop := Claim7.holds Tryd.pinned (.plain (OpenSpec.ofChange objKnownSpec)) objKnownCard

/-- THE TIED CARD OF 'thyrsuslaw11.ObjDeep'. -/
def objDeepCard : Claim7 := { stood := { row := objDeepRow, standIns := [], harness := (true, "5d939f776fa269d05d1e986e318c68f04ee18b5553ca8c7e5d24a5dc91ee9e22"), looks := false }, kinds := [], alts := [], laidByText := true, laidKinds := [.data, .data, .data], laidTests := true, laidLooks := .later }
def ObjDeepCardSaid : Prop := Claim7.holds Tryd.pinned (.plain (OpenSpec.ofChange objDeepSpec)) objDeepCard

/-- THE SECOND FORM's CARD OF 'thyrsuslaw11.ObjKnown'. -/
def objKnownUptoCard : Claim7 := { stood := { row := objKnownUptoRow, standIns := [], harness := (true, "5d939f776fa269d05d1e986e318c68f04ee18b5553ca8c7e5d24a5dc91ee9e22"), looks := false }, kinds := [], alts := [], laidByText := true, laidKinds := [.data, .data, .data], laidTests := true, laidLooks := .later }
def ObjKnownUptoCardSaid : Prop := Claim7.holds Tryd.pinned (.plain (OpenSpec.upto objKnownSpec)) objKnownUptoCard

/-- THE SECOND FORM's CARD OF 'thyrsuslaw11.ObjDeep'. -/
def objDeepUptoCard : Claim7 := { stood := { row := objDeepUptoRow, standIns := [], harness := (true, "5d939f776fa269d05d1e986e318c68f04ee18b5553ca8c7e5d24a5dc91ee9e22"), looks := false }, kinds := [], alts := [], laidByText := true, laidKinds := [.data, .data, .data], laidTests := true, laidLooks := .later }
def ObjDeepUptoCardSaid : Prop := Claim7.holds Tryd.pinned (.plain (OpenSpec.upto objDeepSpec)) objDeepUptoCard
end Rows
end Go.Proofs.YtplhinpjobindaaDoor
