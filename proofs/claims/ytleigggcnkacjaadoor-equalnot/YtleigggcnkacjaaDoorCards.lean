/-
  DERIVED. GIVEN WITH THE SEED: THE CARDS: each row of YtleigggcnkacjaaDoorRows.lean that lists a variable, with what it lists TIED to the program's text (the seventh form; the later family's looks); each row that meets fmt, with fmt's text TOLD by the authors' own Lean function (tested against real Go, not proved from fmt's source: count such statements apart). THE CARD IS WHAT COUNTS. Prove the row's statement (the work); the ties are given (YtleigggcnkacjaaDoorTie.lean); close each card by the builder's one call (the guide's Derived/Test/ToyasCard.lean, 'card_holds'). Laid BY PROGRAM, IN A SANDBOX (cutbox-door.mjs). By AI agents, Wed Nov 11 2026. No macro, syntax, notation, axiom, sorry.
-/
import Derived.Test.YtleigggcnkacjaaDoorRows
import GoSem.ClaimSeven
namespace Go.Proofs.YtleigggcnkacjaaDoor
namespace Rows

/-- THE TIED CARD OF 'thyrsuslaw5.NormTerms'. -/
def normTermsCard : Claim7 := { stood := { row := normTermsRow, standIns := [], harness := (true, "487b39ee9b8f649013c3e3cdec0b87199d739dc3bd83d01e069411db31b0147c"), looks := false }, kinds := [], alts := [], laidByText := true, laidKinds := [.data], laidTests := true, laidLooks := .later }
def NormTermsCardSaid : Prop := Claim7.holds Tryd.pinned (.plain (OpenSpec.ofChange normTermsSpec)) normTermsCard

/-- THE TIED CARD OF 'thyrsuslaw5.NormAgain'. -/
def normAgainCard : Claim7 := { stood := { row := normAgainRow, standIns := [], harness := (true, "487b39ee9b8f649013c3e3cdec0b87199d739dc3bd83d01e069411db31b0147c"), looks := false }, kinds := [], alts := [], laidByText := true, laidKinds := [.data], laidTests := true, laidLooks := .later }
def NormAgainCardSaid : Prop := Claim7.holds Tryd.pinned (.plain (OpenSpec.ofChange normAgainSpec)) normAgainCard

/-- THE TIED CARD OF 'thyrsuslaw5.NormSteps'. -/
def normStepsCard : Claim7 := { stood := { row := normStepsRow, standIns := [], harness := (true, "487b39ee9b8f649013c3e3cdec0b87199d739dc3bd83d01e069411db31b0147c"), looks := false }, kinds := [], alts := [], laidByText := true, laidKinds := [.data], laidTests := true, laidLooks := .later }
def NormStepsCardSaid : Prop := Claim7.holds Tryd.pinned (.plain (OpenSpec.ofChange normStepsSpec)) normStepsCard

/-- THE TIED CARD OF 'thyrsuslaw5.NormEta'. -/
def normEtaCard : Claim7 := { stood := { row := normEtaRow, standIns := [], harness := (true, "487b39ee9b8f649013c3e3cdec0b87199d739dc3bd83d01e069411db31b0147c"), looks := false }, kinds := [], alts := [], laidByText := true, laidKinds := [.data], laidTests := true, laidLooks := .later }
def NormEtaCardSaid : Prop := Claim7.holds Tryd.pinned (.plain (OpenSpec.ofChange normEtaSpec)) normEtaCard

/-- THE TIED CARD OF 'thyrsuslaw5.NormKnown'. -/
def normKnownCard : Claim7 := { stood := { row := normKnownRow, standIns := [], harness := (true, "487b39ee9b8f649013c3e3cdec0b87199d739dc3bd83d01e069411db31b0147c"), looks := false }, kinds := [], alts := [], laidByText := true, laidKinds := [.data], laidTests := true, laidLooks := .later }
def NormKnownCardSaid : Prop := Claim7.holds Tryd.pinned (.plain (OpenSpec.ofChange normKnownSpec)) normKnownCard

/-- THE TIED CARD OF 'thyrsuslaw5.NormParts'. -/
def normPartsCard : Claim7 := { stood := { row := normPartsRow, standIns := [], harness := (true, "487b39ee9b8f649013c3e3cdec0b87199d739dc3bd83d01e069411db31b0147c"), looks := false }, kinds := [], alts := [], laidByText := true, laidKinds := [.data], laidTests := true, laidLooks := .later }
def NormPartsCardSaid : Prop := Claim7.holds Tryd.pinned (.plain (OpenSpec.ofChange normPartsSpec)) normPartsCard

/-- THE TIED CARD OF 'thyrsuslaw5.NormShift'. -/
def normShiftCard : Claim7 := { stood := { row := normShiftRow, standIns := [], harness := (true, "487b39ee9b8f649013c3e3cdec0b87199d739dc3bd83d01e069411db31b0147c"), looks := false }, kinds := [], alts := [], laidByText := true, laidKinds := [.data], laidTests := true, laidLooks := .later }
def NormShiftCardSaid : Prop := Claim7.holds Tryd.pinned (.plain (OpenSpec.ofChange normShiftSpec)) normShiftCard

/-- THE TIED CARD OF 'thyrsuslaw5.NormSubst'. -/
def normSubstCard : Claim7 := { stood := { row := normSubstRow, standIns := [], harness := (true, "487b39ee9b8f649013c3e3cdec0b87199d739dc3bd83d01e069411db31b0147c"), looks := false }, kinds := [], alts := [], laidByText := true, laidKinds := [.data], laidTests := true, laidLooks := .later }
def NormSubstCardSaid : Prop := Claim7.holds Tryd.pinned (.plain (OpenSpec.ofChange normSubstSpec)) normSubstCard

/-- THE TIED CARD OF 'thyrsuslaw6.EqualAll'. -/
def equalAllCard : Claim7 := { stood := { row := equalAllRow, standIns := [], harness := (true, "487b39ee9b8f649013c3e3cdec0b87199d739dc3bd83d01e069411db31b0147c"), looks := false }, kinds := [], alts := [], laidByText := true, laidKinds := [.data], laidTests := true, laidLooks := .later }
def EqualAllCardSaid : Prop := Claim7.holds Tryd.pinned (.plain (OpenSpec.ofChange equalAllSpec)) equalAllCard

/-- THE TIED CARD OF 'thyrsuslaw6.EqualParts'. -/
def equalPartsCard : Claim7 := { stood := { row := equalPartsRow, standIns := [], harness := (true, "487b39ee9b8f649013c3e3cdec0b87199d739dc3bd83d01e069411db31b0147c"), looks := false }, kinds := [], alts := [], laidByText := true, laidKinds := [.data], laidTests := true, laidLooks := .later }
def EqualPartsCardSaid : Prop := Claim7.holds Tryd.pinned (.plain (OpenSpec.ofChange equalPartsSpec)) equalPartsCard

/-- THE TIED CARD OF 'thyrsuslaw6.EqualEta'. -/
def equalEtaCard : Claim7 := { stood := { row := equalEtaRow, standIns := [], harness := (true, "487b39ee9b8f649013c3e3cdec0b87199d739dc3bd83d01e069411db31b0147c"), looks := false }, kinds := [], alts := [], laidByText := true, laidKinds := [.data], laidTests := true, laidLooks := .later }
def EqualEtaCardSaid : Prop := Claim7.holds Tryd.pinned (.plain (OpenSpec.ofChange equalEtaSpec)) equalEtaCard

/-- THE TIED CARD OF 'thyrsuslaw6.EqualSums'. -/
def equalSumsCard : Claim7 := { stood := { row := equalSumsRow, standIns := [], harness := (true, "487b39ee9b8f649013c3e3cdec0b87199d739dc3bd83d01e069411db31b0147c"), looks := false }, kinds := [], alts := [], laidByText := true, laidKinds := [.data], laidTests := true, laidLooks := .later }
def EqualSumsCardSaid : Prop := Claim7.holds Tryd.pinned (.plain (OpenSpec.ofChange equalSumsSpec)) equalSumsCard

/-- THE TIED CARD OF 'thyrsuslaw6.EqualThree'. -/
def equalThreeCard : Claim7 := { stood := { row := equalThreeRow, standIns := [], harness := (true, "487b39ee9b8f649013c3e3cdec0b87199d739dc3bd83d01e069411db31b0147c"), looks := false }, kinds := [], alts := [], laidByText := true, laidKinds := [.data], laidTests := true, laidLooks := .later }
def EqualThreeCardSaid : Prop := Claim7.holds Tryd.pinned (.plain (OpenSpec.ofChange equalThreeSpec)) equalThreeCard

/-- THE TIED CARD OF 'thyrsuslaw6.EqualDeep'. -/
def equalDeepCard : Claim7 := { stood := { row := equalDeepRow, standIns := [], harness := (true, "487b39ee9b8f649013c3e3cdec0b87199d739dc3bd83d01e069411db31b0147c"), looks := false }, kinds := [], alts := [], laidByText := true, laidKinds := [.data], laidTests := true, laidLooks := .later }
def EqualDeepCardSaid : Prop := Claim7.holds Tryd.pinned (.plain (OpenSpec.ofChange equalDeepSpec)) equalDeepCard

/-- THE TIED CARD OF 'thyrsuslaw6.EqualNot'. -/
def equalNotCard : Claim7 := { stood := { row := equalNotRow, standIns := [], harness := (true, "487b39ee9b8f649013c3e3cdec0b87199d739dc3bd83d01e069411db31b0147c"), looks := false }, kinds := [], alts := [], laidByText := true, laidKinds := [.data], laidTests := true, laidLooks := .later }
def EqualNotCardSaid : Prop := Claim7.holds Tryd.pinned (.plain (OpenSpec.ofChange equalNotSpec)) equalNotCard

/-- THE SECOND FORM's CARD OF 'thyrsuslaw5.NormTerms'. -/
def normTermsUptoCard : Claim7 := { stood := { row := normTermsUptoRow, standIns := [], harness := (true, "487b39ee9b8f649013c3e3cdec0b87199d739dc3bd83d01e069411db31b0147c"), looks := false }, kinds := [], alts := [], laidByText := true, laidKinds := [.data], laidTests := true, laidLooks := .later }
def NormTermsUptoCardSaid : Prop := Claim7.holds Tryd.pinned (.plain (OpenSpec.upto normTermsSpec)) normTermsUptoCard

/-- THE SECOND FORM's CARD OF 'thyrsuslaw5.NormAgain'. -/
def normAgainUptoCard : Claim7 := { stood := { row := normAgainUptoRow, standIns := [], harness := (true, "487b39ee9b8f649013c3e3cdec0b87199d739dc3bd83d01e069411db31b0147c"), looks := false }, kinds := [], alts := [], laidByText := true, laidKinds := [.data], laidTests := true, laidLooks := .later }
def NormAgainUptoCardSaid : Prop := Claim7.holds Tryd.pinned (.plain (OpenSpec.upto normAgainSpec)) normAgainUptoCard

/-- THE SECOND FORM's CARD OF 'thyrsuslaw5.NormSteps'. -/
def normStepsUptoCard : Claim7 := { stood := { row := normStepsUptoRow, standIns := [], harness := (true, "487b39ee9b8f649013c3e3cdec0b87199d739dc3bd83d01e069411db31b0147c"), looks := false }, kinds := [], alts := [], laidByText := true, laidKinds := [.data], laidTests := true, laidLooks := .later }
def NormStepsUptoCardSaid : Prop := Claim7.holds Tryd.pinned (.plain (OpenSpec.upto normStepsSpec)) normStepsUptoCard

/-- THE SECOND FORM's CARD OF 'thyrsuslaw5.NormEta'. -/
def normEtaUptoCard : Claim7 := { stood := { row := normEtaUptoRow, standIns := [], harness := (true, "487b39ee9b8f649013c3e3cdec0b87199d739dc3bd83d01e069411db31b0147c"), looks := false }, kinds := [], alts := [], laidByText := true, laidKinds := [.data], laidTests := true, laidLooks := .later }
def NormEtaUptoCardSaid : Prop := Claim7.holds Tryd.pinned (.plain (OpenSpec.upto normEtaSpec)) normEtaUptoCard

/-- THE SECOND FORM's CARD OF 'thyrsuslaw5.NormKnown'. -/
def normKnownUptoCard : Claim7 := { stood := { row := normKnownUptoRow, standIns := [], harness := (true, "487b39ee9b8f649013c3e3cdec0b87199d739dc3bd83d01e069411db31b0147c"), looks := false }, kinds := [], alts := [], laidByText := true, laidKinds := [.data], laidTests := true, laidLooks := .later }
def NormKnownUptoCardSaid : Prop := Claim7.holds Tryd.pinned (.plain (OpenSpec.upto normKnownSpec)) normKnownUptoCard

/-- THE SECOND FORM's CARD OF 'thyrsuslaw5.NormParts'. -/
def normPartsUptoCard : Claim7 := { stood := { row := normPartsUptoRow, standIns := [], harness := (true, "487b39ee9b8f649013c3e3cdec0b87199d739dc3bd83d01e069411db31b0147c"), looks := false }, kinds := [], alts := [], laidByText := true, laidKinds := [.data], laidTests := true, laidLooks := .later }
def NormPartsUptoCardSaid : Prop := Claim7.holds Tryd.pinned (.plain (OpenSpec.upto normPartsSpec)) normPartsUptoCard

/-- THE SECOND FORM's CARD OF 'thyrsuslaw5.NormShift'. -/
def normShiftUptoCard : Claim7 := { stood := { row := normShiftUptoRow, standIns := [], harness := (true, "487b39ee9b8f649013c3e3cdec0b87199d739dc3bd83d01e069411db31b0147c"), looks := false }, kinds := [], alts := [], laidByText := true, laidKinds := [.data], laidTests := true, laidLooks := .later }
def NormShiftUptoCardSaid : Prop := Claim7.holds Tryd.pinned (.plain (OpenSpec.upto normShiftSpec)) normShiftUptoCard

/-- THE SECOND FORM's CARD OF 'thyrsuslaw5.NormSubst'. -/
def normSubstUptoCard : Claim7 := { stood := { row := normSubstUptoRow, standIns := [], harness := (true, "487b39ee9b8f649013c3e3cdec0b87199d739dc3bd83d01e069411db31b0147c"), looks := false }, kinds := [], alts := [], laidByText := true, laidKinds := [.data], laidTests := true, laidLooks := .later }
def NormSubstUptoCardSaid : Prop := Claim7.holds Tryd.pinned (.plain (OpenSpec.upto normSubstSpec)) normSubstUptoCard

/-- THE SECOND FORM's CARD OF 'thyrsuslaw6.EqualAll'. -/
def equalAllUptoCard : Claim7 := { stood := { row := equalAllUptoRow, standIns := [], harness := (true, "487b39ee9b8f649013c3e3cdec0b87199d739dc3bd83d01e069411db31b0147c"), looks := false }, kinds := [], alts := [], laidByText := true, laidKinds := [.data], laidTests := true, laidLooks := .later }
def EqualAllUptoCardSaid : Prop := Claim7.holds Tryd.pinned (.plain (OpenSpec.upto equalAllSpec)) equalAllUptoCard

/-- THE SECOND FORM's CARD OF 'thyrsuslaw6.EqualParts'. -/
def equalPartsUptoCard : Claim7 := { stood := { row := equalPartsUptoRow, standIns := [], harness := (true, "487b39ee9b8f649013c3e3cdec0b87199d739dc3bd83d01e069411db31b0147c"), looks := false }, kinds := [], alts := [], laidByText := true, laidKinds := [.data], laidTests := true, laidLooks := .later }
def EqualPartsUptoCardSaid : Prop := Claim7.holds Tryd.pinned (.plain (OpenSpec.upto equalPartsSpec)) equalPartsUptoCard

/-- THE SECOND FORM's CARD OF 'thyrsuslaw6.EqualEta'. -/
def equalEtaUptoCard : Claim7 := { stood := { row := equalEtaUptoRow, standIns := [], harness := (true, "487b39ee9b8f649013c3e3cdec0b87199d739dc3bd83d01e069411db31b0147c"), looks := false }, kinds := [], alts := [], laidByText := true, laidKinds := [.data], laidTests := true, laidLooks := .later }
def EqualEtaUptoCardSaid : Prop := Claim7.holds Tryd.pinned (.plain (OpenSpec.upto equalEtaSpec)) equalEtaUptoCard

/-- THE SECOND FORM's CARD OF 'thyrsuslaw6.EqualSums'. -/
def equalSumsUptoCard : Claim7 := { stood := { row := equalSumsUptoRow, standIns := [], harness := (true, "487b39ee9b8f649013c3e3cdec0b87199d739dc3bd83d01e069411db31b0147c"), looks := false }, kinds := [], alts := [], laidByText := true, laidKinds := [.data], laidTests := true, laidLooks := .later }
def EqualSumsUptoCardSaid : Prop := Claim7.holds Tryd.pinned (.plain (OpenSpec.upto equalSumsSpec)) equalSumsUptoCard

/-- THE SECOND FORM's CARD OF 'thyrsuslaw6.EqualThree'. -/
def equalThreeUptoCard : Claim7 := { stood := { row := equalThreeUptoRow, standIns := [], harness := (true, "487b39ee9b8f649013c3e3cdec0b87199d739dc3bd83d01e069411db31b0147c"), looks := false }, kinds := [], alts := [], laidByText := true, laidKinds := [.data], laidTests := true, laidLooks := .later }
def EqualThreeUptoCardSaid : Prop := Claim7.holds Tryd.pinned (.plain (OpenSpec.upto equalThreeSpec)) equalThreeUptoCard

/-- THE SECOND FORM's CARD OF 'thyrsuslaw6.EqualDeep'. -/
def equalDeepUptoCard : Claim7 := { stood := { row := equalDeepUptoRow, standIns := [], harness := (true, "487b39ee9b8f649013c3e3cdec0b87199d739dc3bd83d01e069411db31b0147c"), looks := false }, kinds := [], alts := [], laidByText := true, laidKinds := [.data], laidTests := true, laidLooks := .later }
def EqualDeepUptoCardSaid : Prop := Claim7.holds Tryd.pinned (.plain (OpenSpec.upto equalDeepSpec)) equalDeepUptoCard

/-- THE SECOND FORM's CARD OF 'thyrsuslaw6.EqualNot'. -/
def equalNotUptoCard : Claim7 := { stood := { row := equalNotUptoRow, standIns := [], harness := (true, "487b39ee9b8f649013c3e3cdec0b87199d739dc3bd83d01e069411db31b0147c"), looks := false }, kinds := [], alts := [], laidByText := true, laidKinds := [.data], laidTests := true, laidLooks := .later }
def EqualNotUptoCardSaid : Prop := Claim7.holds Tryd.pinned (.plain (OpenSpec.upto equalNotSpec)) equalNotUptoCard
end Rows
end Go.Proofs.YtleigggcnkacjaaDoor
