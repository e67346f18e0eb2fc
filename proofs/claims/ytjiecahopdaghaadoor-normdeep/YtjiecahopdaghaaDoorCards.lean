/-
  DERIVED. GIVEN WITH THE SEED: THE CARDS: each row of YtjiecahopdaghaaDoorRows.lean that lists a variable, with what it lists TIED to the program's text (the seventh form; the later family's looks); each row that meets fmt, with fmt's text TOLD by the authors' own Lean function (tested against real Go, not proved from fmt's source: count such statements apart). THE CARD IS WHAT COUNTS. Prove the row's statement (the work); the ties are given (YtjiecahopdaghaaDoorTie.lean); close each card by the builder's one call (the guide's Derived/Test/ToyasCard.lean, 'card_holds'). Laid BY PROGRAM, IN A SANDBOX (cutbox-door.mjs). By AI agents, Wed Nov 11 2026. No macro, syntax, notation, axiom, sorry.
-/
import Derived.Test.YtjiecahopdaghaaDoorRows
import GoSem.ClaimSeven
namespace Go.Proofs.YtjiecahopdaghaaDoor
namespace Rows

/-- THE TIED CARD OF 'thyrsuslaw5.NormTerms'. -/
def normTermsCard : Claim7 := { stood := { row := normTermsRow, standIns := [], harness := (true, "ca221d18accfc2c8ce331cf510237662624297d1b00de2a2087a3371da0957ac"), looks := false }, kinds := [], alts := [], laidByText := true, laidKinds := [.data], laidTests := true, laidLooks := .later }
def NormTermsCardSaid : Prop := Claim7.holds Tryd.pinned (.plain (OpenSpec.ofChange normTermsSpec)) normTermsCard

/-- THE TIED CARD OF 'thyrsuslaw5.NormAgain'. -/
def normAgainCard : Claim7 := { stood := { row := normAgainRow, standIns := [], harness := (true, "ca221d18accfc2c8ce331cf510237662624297d1b00de2a2087a3371da0957ac"), looks := false }, kinds := [], alts := [], laidByText := true, laidKinds := [.data], laidTests := true, laidLooks := .later }
def NormAgainCardSaid : Prop := Claim7.holds Tryd.pinned (.plain (OpenSpec.ofChange normAgainSpec)) normAgainCard

/-- THE TIED CARD OF 'thyrsuslaw5.NormSteps'. -/
def normStepsCard : Claim7 := { stood := { row := normStepsRow, standIns := [], harness := (true, "ca221d18accfc2c8ce331cf510237662624297d1b00de2a2087a3371da0957ac"), looks := false }, kinds := [], alts := [], laidByText := true, laidKinds := [.data], laidTests := true, laidLooks := .later }
def NormStepsCardSaid : Prop := Claim7.holds Tryd.pinned (.plain (OpenSpec.ofChange normStepsSpec)) normStepsCard

/-- THE TIED CARD OF 'thyrsuslaw5.NormEta'. -/
def normEtaCard : Claim7 := { stood := { row := normEtaRow, standIns := [], harness := (true, "ca221d18accfc2c8ce331cf510237662624297d1b00de2a2087a3371da0957ac"), looks := false }, kinds := [], alts := [], laidByText := true, laidKinds := [.data], laidTests := true, laidLooks := .later }
def NormEtaCardSaid : Prop := Claim7.holds Tryd.pinned (.plain (OpenSpec.ofChange normEtaSpec)) normEtaCard

/-- THE TIED CARD OF 'thyrsuslaw5.NormDeep'. -/
def normDeepCard : Claim7 := { stood := { row := normDeepRow, standIns := [], harness := (true, "ca221d18accfc2c8ce331cf510237662624297d1b00de2a2087a3371da0957ac"), looks := false }, kinds := [], alts := [], laidByText := true, laidKinds := [.data], laidTests := true, laidLooks := .later }
def NormDeepCardSaid : Prop := Claim7.holds Tryd.pinned (.plain (OpenSpec.ofChange normDeepSpec)) normDeepCard

/-- THE TIED CARD OF 'thyrsuslaw5.NormNumbers'. -/
def normNumbersCard : Claim7 := { stood := { row := normNumbersRow, standIns := [], harness := (true, "ca221d18accfc2c8ce331cf510237662624297d1b00de2a2087a3371da0957ac"), looks := false }, kinds := [], alts := [], laidByText := true, laidKinds := [.data], laidTests := true, laidLooks := .later }
def NormNumbersCardSaid : Prop := Claim7.holds Tryd.pinned (.plain (OpenSpec.ofChange normNumbersSpec)) normNumbersCard

/-- THE SECOND FORM's CARD OF 'thyrsuslaw5.NormTerms'. -/
def normTermsUptoCard : Claim7 := { stood := { row := normTermsUptoRow, standIns := [], harness := (true, "ca221d18accfc2c8ce331cf510237662624297d1b00de2a2087a3371da0957ac"), looks := false }, kinds := [], alts := [], laidByText := true, laidKinds := [.data], laidTests := true, laidLooks := .later }
def NormTermsUptoCardSaid : Prop := Claim7.holds Tryd.pinned (.plain (OpenSpec.upto normTermsSpec)) normTermsUptoCard

/-- THE SECOND FORM's CARD OF 'thyrsuslaw5.NormAgain'. -/
def normAgainUptoCard : Claim7 := { stood := { row := normAgainUptoRow, standIns := [], harness := (true, "ca221d18accfc2c8ce331cf510237662624297d1b00de2a2087a3371da0957ac"), looks := false }, kinds := [], alts := [], laidByText := true, laidKinds := [.data], laidTests := true, laidLooks := .later }
def NormAgainUptoCardSaid : Prop := Claim7.holds Tryd.pinned (.plain (OpenSpec.upto normAgainSpec)) normAgainUptoCard

/-- THE SECOND FORM's CARD OF 'thyrsuslaw5.NormSteps'. -/
def normStepsUptoCard : Claim7 := { stood := { row := normStepsUptoRow, standIns := [], harness := (true, "ca221d18accfc2c8ce331cf510237662624297d1b00de2a2087a3371da0957ac"), looks := false }, kinds := [], alts := [], laidByText := true, laidKinds := [.data], laidTests := true, laidLooks := .later }
def NormStepsUptoCardSaid : Prop := Claim7.holds Tryd.pinned (.plain (OpenSpec.upto normStepsSpec)) normStepsUptoCard

/-- THE SECOND FORM's CARD OF 'thyrsuslaw5.NormEta'. -/
def normEtaUptoCard : Claim7 := { stood := { row := normEtaUptoRow, standIns := [], harness := (true, "ca221d18accfc2c8ce331cf510237662624297d1b00de2a2087a3371da0957ac"), looks := false }, kinds := [], alts := [], laidByText := true, laidKinds := [.data], laidTests := true, laidLooks := .later }
def NormEtaUptoCardSaid : Prop := Claim7.holds Tryd.pinned (.plain (OpenSpec.upto normEtaSpec)) normEtaUptoCard

/-- THE SECOND FORM's CARD OF 'thyrsuslaw5.NormDeep'. -/
def normDeepUptoCard : Claim7 := { stood := { row := normDeepUptoRow, standIns := [], harness := (true, "ca221d18accfc2c8ce331cf510237662624297d1b00de2a2087a3371da0957ac"), looks := false }, kinds := [], alts := [], laidByText := true, laidKinds := [.data], laidTests := true, laidLooks := .later }
def NormDeepUptoCardSaid : Prop := Claim7.holds Tryd.pinned (.plain (OpenSpec.upto normDeepSpec)) normDeepUptoCard

/-- THE SECOND FORM's CARD OF 'thyrsuslaw5.NormNumbers'. -/
def normNumbersUptoCard : Claim7 := { stood := { row := normNumbersUptoRow, standIns := [], harness := (true, "ca221d18accfc2c8ce331cf510237662624297d1b00de2a2087a3371da0957ac"), looks := false }, kinds := [], alts := [], laidByText := true, laidKinds := [.data], laidTests := true, laidLooks := .later }
def NormNumbersUptoCardSaid : Prop := Claim7.holds Tryd.pinned (.plain (OpenSpec.upto normNumbersSpec)) normNumbersUptoCard
end Rows
end Go.Proofs.YtjiecahopdaghaaDoor
