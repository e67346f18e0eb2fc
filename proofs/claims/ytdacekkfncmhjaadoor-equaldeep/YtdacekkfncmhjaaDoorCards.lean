/-
  DERIVED. GIVEN WITH THE SEED: THE CARDS: each row of YtdacekkfncmhjaaDoorRows.lean that lists a variable, with what it lists TIED to the program's text (the seventh form; the later family's looks); each row that meets fmt, with fmt's text TOLD by the authors' own Lean function (tested against real Go, not proved from fmt's source: count such statements apart). THE CARD IS WHAT COUNTS. Prove the row's statement (the work); the ties are given (YtdacekkfncmhjaaDoorTie.lean); close each card by the builder's one call (the guide's Derived/Test/ToyasCard.lean, 'card_holds'). Laid BY PROGRAM, IN A SANDBOX (cutbox-door.mjs). By AI agents, Wed Nov 11 2026. No macro, syntax, notation, axiom, sorry.
-/
import Derived.Test.YtdacekkfncmhjaaDoorRows
import GoSem.ClaimSeven
namespace Go.Proofs.YtdacekkfncmhjaaDoor
namespace Rows

/-- THE TIED CARD OF 'thyrsuslaw6.EqualSums'. -/
def equalSumsCard : Claim7 := { stood := { row := equalSumsRow, standIns := [], harness := (true, "fa3072e30f0ea02a513cc16f40c053a1b8476d494f686e62cb936dd78dbd6762"), looks := false }, kinds := [], alts := [], laidByText := true, laidKinds := [.data], laidTests := true, laidLooks := .later }
def EqualSumsCardSaid : Prop := Claim7.holds Tryd.pinned (.plain (OpenSpec.ofChange equalSumsSpec)) equalSumsCard

/-- THE TIED CARD OF 'thyrsuslaw6.EqualDeep'. -/
def equalDeepCard : Claim7 := { stood := { row := equalDeepRow, standIns := [], harness := (true, "fa3072e30f0ea02a513cc16f40c053a1b8476d494f686e62cb936dd78dbd6762"), looks := false }, kinds := [], alts := [], laidByText := true, laidKinds := [.data], laidTests := true, laidLooks := .later }
def EqualDeepCardSaid : Prop := Claim7.holds Tryd.pinned (.plain (OpenSpec.ofChange equalDeepSpec)) equalDeepCard

/-- THE SECOND FORM's CARD OF 'thyrsuslaw6.EqualSums'. -/
def equalSumsUptoCard : Claim7 := { stood := { row := equalSumsUptoRow, standIns := [], harness := (true, "fa3072e30f0ea02a513cc16f40c053a1b8476d494f686e62cb936dd78dbd6762"), looks := false }, kinds := [], alts := [], laidByText := true, laidKinds := [.data], laidTests := true, laidLooks := .later }
def EqualSumsUptoCardSaid : Prop := Claim7.holds Tryd.pinned (.plain (OpenSpec.upto equalSumsSpec)) equalSumsUptoCard

/-- THE SECOND FORM's CARD OF 'thyrsuslaw6.EqualDeep'. -/
def equalDeepUptoCard : Claim7 := { stood := { row := equalDeepUptoRow, standIns := [], harness := (true, "fa3072e30f0ea02a513cc16f40c053a1b8476d494f686e62cb936dd78dbd6762"), looks := false }, kinds := [], alts := [], laidByText := true, laidKinds := [.data], laidTests := true, laidLooks := .later }
def EqualDeepUptoCardSaid : Prop := Claim7.holds Tryd.pinned (.plain (OpenSpec.upto equalDeepSpec)) equalDeepUptoCard
end Rows
end Go.Proofs.YtdacekkfncmhjaaDoor
