/-
  NARROWER THAN 'FOR EVERY INPUT', by the rows' own cells (each row's printed sentence says how): NormTerms: loops, laid · NormAgain: loops, laid · NormSteps: loops, laid · NormEta: loops, laid · NormKnown: laid · NormParts: loops, laid · NormShift: loops, laid · NormSubst: loops, laid · EqualAll: loops, laid · EqualParts: loops, laid · EqualEta: loops, laid · EqualSums: laid · EqualThree: loops, laid · EqualDeep: laid · EqualNot: laid.
  DERIVED. THE GIVEN ROWS OF THIS SEAT. 15 by the template 'for every input the law returns true; each argument reads behind the call as it read before'; 0 by the template 'total and deterministic' (their statements: YtleigggcnkacjaaDoorTotals.lean).
  GIVEN WITH THE SEED: the statements are not yours to turn. If you find one false, say at which input.
  Laid BY PROGRAM, IN A SANDBOX (cutbox-rows.mjs): the forced cells as the released guide's own fill.sh prints them over the translation b85334990818e7d0… (all of the seat's roots in one cut). By AI agents, Wed Nov 11 2026. No macro, syntax, notation, axiom, sorry.
-/
import Derived.Test.YtleigggcnkacjaaDoorChecked
import GoSem.Claim
import GoSem.ClaimJoined
import GoSem.ClaimMapViews
import Derived.JoinedTies
import Derived.KernelRfl
namespace Go.Proofs.YtleigggcnkacjaaDoor
/- THE CELL 'sum', in the pinned program and in every row, IS THE sha256 OF THE DUMP (.gsa) THAT YtleigggcnkacjaaDoorProg.lean LOADS. Nothing in Lean hashes anything: it is a label: what it is worth is what the hold of that sum in a sandbox is worth. -/
noncomputable def Tryd.pinned : Pinned := { name := "ytleigggcnkacjaadoor", sum := "b85334990818e7d0633be69bfd2614bf5f5c07d366235ed418256502bdd0974e", checked := Tryd.checked }
namespace Rows
def none {H : Type} : Left H := { results := [], args := [] }

/- WHAT THE LISTED PACKAGE-LEVEL VARIABLES READ AS WHEN THE CALL BEGINS. Each datum BY PROGRAM (the guide's laid-datum.mjs) off the statement by which the dump's own 'gosem.cut.vars' lays the variable. In a bare row this is a premise. The card (YtleigggcnkacjaaDoorCards.lean) ties it to the program's text. -/
def laid_thyrsus_term_binders {H : Type} : DataW H := .agg [.agg [.lit (.int .i8 0), .lit (.int .i8 0), .lit (.int .i8 0), .lit (.int .i8 0)], .agg [.lit (.int .i8 0), .lit (.int .i8 0), .lit (.int .i8 0), .lit (.int .i8 0)], .agg [.lit (.int .i8 0), .lit (.int .i8 0), .lit (.int .i8 0), .lit (.int .i8 0)], .agg [.lit (.int .i8 0), .lit (.int .i8 1), .lit (.int .i8 0), .lit (.int .i8 0)], .agg [.lit (.int .i8 0), .lit (.int .i8 1), .lit (.int .i8 0), .lit (.int .i8 0)], .agg [.lit (.int .i8 0), .lit (.int .i8 0), .lit (.int .i8 0), .lit (.int .i8 0)], .agg [.lit (.int .i8 0), .lit (.int .i8 1), .lit (.int .i8 0), .lit (.int .i8 0)], .agg [.lit (.int .i8 0), .lit (.int .i8 0), .lit (.int .i8 0), .lit (.int .i8 0)], .agg [.lit (.int .i8 0), .lit (.int .i8 0), .lit (.int .i8 0), .lit (.int .i8 0)], .agg [.lit (.int .i8 0), .lit (.int .i8 0), .lit (.int .i8 0), .lit (.int .i8 0)], .agg [.lit (.int .i8 0), .lit (.int .i8 0), .lit (.int .i8 0), .lit (.int .i8 0)], .agg [.lit (.int .i8 0), .lit (.int .i8 0), .lit (.int .i8 0), .lit (.int .i8 0)], .agg [.lit (.int .i8 0), .lit (.int .i8 0), .lit (.int .i8 0), .lit (.int .i8 0)], .agg [.lit (.int .i8 1), .lit (.int .i8 0), .lit (.int .i8 2), .lit (.int .i8 0)], .agg [.lit (.int .i8 0), .lit (.int .i8 0), .lit (.int .i8 0), .lit (.int .i8 0)], .agg [.lit (.int .i8 0), .lit (.int .i8 0), .lit (.int .i8 0), .lit (.int .i8 0)], .agg [.lit (.int .i8 0), .lit (.int .i8 0), .lit (.int .i8 0), .lit (.int .i8 0)], .agg [.lit (.int .i8 0), .lit (.int .i8 0), .lit (.int .i8 0), .lit (.int .i8 0)], .agg [.lit (.int .i8 0), .lit (.int .i8 0), .lit (.int .i8 0), .lit (.int .i8 0)], .agg [.lit (.int .i8 0), .lit (.int .i8 0), .lit (.int .i8 0), .lit (.int .i8 0)], .agg [.lit (.int .i8 0), .lit (.int .i8 1), .lit (.int .i8 0), .lit (.int .i8 0)], .agg [.lit (.int .i8 0), .lit (.int .i8 0), .lit (.int .i8 0), .lit (.int .i8 0)], .agg [.lit (.int .i8 0), .lit (.int .i8 0), .lit (.int .i8 0), .lit (.int .i8 0)], .agg [.lit (.int .i8 0), .lit (.int .i8 0), .lit (.int .i8 0), .lit (.int .i8 0)], .agg [.lit (.int .i8 0), .lit (.int .i8 0), .lit (.int .i8 0), .lit (.int .i8 0)], .agg [.lit (.int .i8 0), .lit (.int .i8 0), .lit (.int .i8 0), .lit (.int .i8 0)], .agg [.lit (.int .i8 0), .lit (.int .i8 0), .lit (.int .i8 0), .lit (.int .i8 0)], .agg [.lit (.int .i8 0), .lit (.int .i8 0), .lit (.int .i8 0), .lit (.int .i8 0)], .agg [.lit (.int .i8 0), .lit (.int .i8 1), .lit (.int .i8 0), .lit (.int .i8 0)], .agg [.lit (.int .i8 0), .lit (.int .i8 1), .lit (.int .i8 0), .lit (.int .i8 0)], .agg [.lit (.int .i8 0), .lit (.int .i8 0), .lit (.int .i8 0), .lit (.int .i8 0)]]

/-- 'thyrsuslaw5.NormTerms': WHATEVER THE INPUT: true; the input reads as it did. -/
def normTermsSpec : ChangeSpec := { name := "normTerms", fn := fun _ => fun
  | [d1, d2, d3, d4] => { results := [.lit (.bool true)], args := [d1, d2, d3, d4] }
  | _ => none }
def normTermsRow : OpenClaim := { program := "ytleigggcnkacjaadoor", sum := "b85334990818e7d0633be69bfd2614bf5f5c07d366235ed418256502bdd0974e", func := "thyrsus/thyrsuslaw5.NormTerms", spec := "normTerms", unfollowed := true, recurses := true, named := ["thyrsus/term.binders"], loops := true, apart := false, laid := [("thyrsus/term.binders", laid_thyrsus_term_binders)] }
def NormTermsSaid : Prop := normTermsRow.holds Tryd.pinned (OpenSpec.ofChange normTermsSpec)

/-- ITS FALSE NEIGHBOUR: 'it returns false'. Refute it at one input. -/
def normTermsWrong : ChangeSpec := { name := "normTerms", fn := fun _ => fun
  | [d1, d2, d3, d4] => { results := [.lit (.bool false)], args := [d1, d2, d3, d4] }
  | _ => none }
def NormTermsWrongFalsely : Prop := normTermsRow.holds Tryd.pinned (OpenSpec.ofChange normTermsWrong)

/-- 'thyrsuslaw5.NormAgain': WHATEVER THE INPUT: true; the input reads as it did. -/
def normAgainSpec : ChangeSpec := { name := "normAgain", fn := fun _ => fun
  | [d1, d2, d3, d4] => { results := [.lit (.bool true)], args := [d1, d2, d3, d4] }
  | _ => none }
def normAgainRow : OpenClaim := { program := "ytleigggcnkacjaadoor", sum := "b85334990818e7d0633be69bfd2614bf5f5c07d366235ed418256502bdd0974e", func := "thyrsus/thyrsuslaw5.NormAgain", spec := "normAgain", unfollowed := true, recurses := true, named := ["thyrsus/term.binders"], loops := true, apart := false, laid := [("thyrsus/term.binders", laid_thyrsus_term_binders)] }
def NormAgainSaid : Prop := normAgainRow.holds Tryd.pinned (OpenSpec.ofChange normAgainSpec)

/-- ITS FALSE NEIGHBOUR: 'it returns false'. Refute it at one input. -/
def normAgainWrong : ChangeSpec := { name := "normAgain", fn := fun _ => fun
  | [d1, d2, d3, d4] => { results := [.lit (.bool false)], args := [d1, d2, d3, d4] }
  | _ => none }
def NormAgainWrongFalsely : Prop := normAgainRow.holds Tryd.pinned (OpenSpec.ofChange normAgainWrong)

/-- 'thyrsuslaw5.NormSteps': WHATEVER THE INPUT: true; the input reads as it did. -/
def normStepsSpec : ChangeSpec := { name := "normSteps", fn := fun _ => fun
  | [d1, d2, d3, d4, d5] => { results := [.lit (.bool true)], args := [d1, d2, d3, d4, d5] }
  | _ => none }
def normStepsRow : OpenClaim := { program := "ytleigggcnkacjaadoor", sum := "b85334990818e7d0633be69bfd2614bf5f5c07d366235ed418256502bdd0974e", func := "thyrsus/thyrsuslaw5.NormSteps", spec := "normSteps", unfollowed := true, recurses := true, named := ["thyrsus/term.binders"], loops := true, apart := false, laid := [("thyrsus/term.binders", laid_thyrsus_term_binders)] }
def NormStepsSaid : Prop := normStepsRow.holds Tryd.pinned (OpenSpec.ofChange normStepsSpec)

/-- ITS FALSE NEIGHBOUR: 'it returns false'. Refute it at one input. -/
def normStepsWrong : ChangeSpec := { name := "normSteps", fn := fun _ => fun
  | [d1, d2, d3, d4, d5] => { results := [.lit (.bool false)], args := [d1, d2, d3, d4, d5] }
  | _ => none }
def NormStepsWrongFalsely : Prop := normStepsRow.holds Tryd.pinned (OpenSpec.ofChange normStepsWrong)

/-- 'thyrsuslaw5.NormEta': WHATEVER THE INPUT: true; the input reads as it did. -/
def normEtaSpec : ChangeSpec := { name := "normEta", fn := fun _ => fun
  | [d1, d2, d3] => { results := [.lit (.bool true)], args := [d1, d2, d3] }
  | _ => none }
def normEtaRow : OpenClaim := { program := "ytleigggcnkacjaadoor", sum := "b85334990818e7d0633be69bfd2614bf5f5c07d366235ed418256502bdd0974e", func := "thyrsus/thyrsuslaw5.NormEta", spec := "normEta", unfollowed := true, recurses := true, named := ["thyrsus/term.binders"], loops := true, apart := false, laid := [("thyrsus/term.binders", laid_thyrsus_term_binders)] }
def NormEtaSaid : Prop := normEtaRow.holds Tryd.pinned (OpenSpec.ofChange normEtaSpec)

/-- ITS FALSE NEIGHBOUR: 'it returns false'. Refute it at one input. -/
def normEtaWrong : ChangeSpec := { name := "normEta", fn := fun _ => fun
  | [d1, d2, d3] => { results := [.lit (.bool false)], args := [d1, d2, d3] }
  | _ => none }
def NormEtaWrongFalsely : Prop := normEtaRow.holds Tryd.pinned (OpenSpec.ofChange normEtaWrong)

/-- 'thyrsuslaw5.NormKnown': WHATEVER THE INPUT: true; the input reads as it did. -/
def normKnownSpec : ChangeSpec := { name := "normKnown", fn := fun _ => fun
  | [d] => { results := [.lit (.bool true)], args := [d] }
  | _ => none }
def normKnownRow : OpenClaim := { program := "ytleigggcnkacjaadoor", sum := "b85334990818e7d0633be69bfd2614bf5f5c07d366235ed418256502bdd0974e", func := "thyrsus/thyrsuslaw5.NormKnown", spec := "normKnown", unfollowed := true, recurses := true, named := ["thyrsus/term.binders"], apart := false, laid := [("thyrsus/term.binders", laid_thyrsus_term_binders)] }
def NormKnownSaid : Prop := normKnownRow.holds Tryd.pinned (OpenSpec.ofChange normKnownSpec)

/-- ITS FALSE NEIGHBOUR: 'it returns false'. Refute it at one input. -/
def normKnownWrong : ChangeSpec := { name := "normKnown", fn := fun _ => fun
  | [d] => { results := [.lit (.bool false)], args := [d] }
  | _ => none }
def NormKnownWrongFalsely : Prop := normKnownRow.holds Tryd.pinned (OpenSpec.ofChange normKnownWrong)

/-- 'thyrsuslaw5.NormParts': WHATEVER THE INPUT: true; the input reads as it did. -/
def normPartsSpec : ChangeSpec := { name := "normParts", fn := fun _ => fun
  | [d1, d2, d3, d4] => { results := [.lit (.bool true)], args := [d1, d2, d3, d4] }
  | _ => none }
def normPartsRow : OpenClaim := { program := "ytleigggcnkacjaadoor", sum := "b85334990818e7d0633be69bfd2614bf5f5c07d366235ed418256502bdd0974e", func := "thyrsus/thyrsuslaw5.NormParts", spec := "normParts", unfollowed := true, recurses := true, named := ["thyrsus/term.binders"], loops := true, apart := false, laid := [("thyrsus/term.binders", laid_thyrsus_term_binders)] }
def NormPartsSaid : Prop := normPartsRow.holds Tryd.pinned (OpenSpec.ofChange normPartsSpec)

/-- ITS FALSE NEIGHBOUR: 'it returns false'. Refute it at one input. -/
def normPartsWrong : ChangeSpec := { name := "normParts", fn := fun _ => fun
  | [d1, d2, d3, d4] => { results := [.lit (.bool false)], args := [d1, d2, d3, d4] }
  | _ => none }
def NormPartsWrongFalsely : Prop := normPartsRow.holds Tryd.pinned (OpenSpec.ofChange normPartsWrong)

/-- 'thyrsuslaw5.NormShift': WHATEVER THE INPUT: true; the input reads as it did. -/
def normShiftSpec : ChangeSpec := { name := "normShift", fn := fun _ => fun
  | [d1, d2, d3, d4, d5] => { results := [.lit (.bool true)], args := [d1, d2, d3, d4, d5] }
  | _ => none }
def normShiftRow : OpenClaim := { program := "ytleigggcnkacjaadoor", sum := "b85334990818e7d0633be69bfd2614bf5f5c07d366235ed418256502bdd0974e", func := "thyrsus/thyrsuslaw5.NormShift", spec := "normShift", unfollowed := true, recurses := true, named := ["thyrsus/term.binders"], loops := true, apart := false, laid := [("thyrsus/term.binders", laid_thyrsus_term_binders)] }
def NormShiftSaid : Prop := normShiftRow.holds Tryd.pinned (OpenSpec.ofChange normShiftSpec)

/-- ITS FALSE NEIGHBOUR: 'it returns false'. Refute it at one input. -/
def normShiftWrong : ChangeSpec := { name := "normShift", fn := fun _ => fun
  | [d1, d2, d3, d4, d5] => { results := [.lit (.bool false)], args := [d1, d2, d3, d4, d5] }
  | _ => none }
def NormShiftWrongFalsely : Prop := normShiftRow.holds Tryd.pinned (OpenSpec.ofChange normShiftWrong)

/-- 'thyrsuslaw5.NormSubst': WHATEVER THE INPUT: true; the input reads as it did. -/
def normSubstSpec : ChangeSpec := { name := "normSubst", fn := fun _ => fun
  | [d1, d2, d3, d4] => { results := [.lit (.bool true)], args := [d1, d2, d3, d4] }
  | _ => none }
def normSubstRow : OpenClaim := { program := "ytleigggcnkacjaadoor", sum := "b85334990818e7d0633be69bfd2614bf5f5c07d366235ed418256502bdd0974e", func := "thyrsus/thyrsuslaw5.NormSubst", spec := "normSubst", unfollowed := true, recurses := true, named := ["thyrsus/term.binders"], loops := true, apart := false, laid := [("thyrsus/term.binders", laid_thyrsus_term_binders)] }
def NormSubstSaid : Prop := normSubstRow.holds Tryd.pinned (OpenSpec.ofChange normSubstSpec)

/-- ITS FALSE NEIGHBOUR: 'it returns false'. Refute it at one input. -/
def normSubstWrong : ChangeSpec := { name := "normSubst", fn := fun _ => fun
  | [d1, d2, d3, d4] => { results := [.lit (.bool false)], args := [d1, d2, d3, d4] }
  | _ => none }
def NormSubstWrongFalsely : Prop := normSubstRow.holds Tryd.pinned (OpenSpec.ofChange normSubstWrong)

/-- 'thyrsuslaw6.EqualAll': WHATEVER THE INPUT: true; the input reads as it did. -/
def equalAllSpec : ChangeSpec := { name := "equalAll", fn := fun _ => fun
  | [d1, d2, d3, d4, d5] => { results := [.lit (.bool true)], args := [d1, d2, d3, d4, d5] }
  | _ => none }
def equalAllRow : OpenClaim := { program := "ytleigggcnkacjaadoor", sum := "b85334990818e7d0633be69bfd2614bf5f5c07d366235ed418256502bdd0974e", func := "thyrsus/thyrsuslaw6.EqualAll", spec := "equalAll", unfollowed := true, recurses := true, named := ["thyrsus/term.binders"], loops := true, apart := false, laid := [("thyrsus/term.binders", laid_thyrsus_term_binders)] }
def EqualAllSaid : Prop := equalAllRow.holds Tryd.pinned (OpenSpec.ofChange equalAllSpec)

/-- ITS FALSE NEIGHBOUR: 'it returns false'. Refute it at one input. -/
def equalAllWrong : ChangeSpec := { name := "equalAll", fn := fun _ => fun
  | [d1, d2, d3, d4, d5] => { results := [.lit (.bool false)], args := [d1, d2, d3, d4, d5] }
  | _ => none }
def EqualAllWrongFalsely : Prop := equalAllRow.holds Tryd.pinned (OpenSpec.ofChange equalAllWrong)

/-- 'thyrsuslaw6.EqualParts': WHATEVER THE INPUT: true; the input reads as it did. -/
def equalPartsSpec : ChangeSpec := { name := "equalParts", fn := fun _ => fun
  | [d1, d2, d3, d4] => { results := [.lit (.bool true)], args := [d1, d2, d3, d4] }
  | _ => none }
def equalPartsRow : OpenClaim := { program := "ytleigggcnkacjaadoor", sum := "b85334990818e7d0633be69bfd2614bf5f5c07d366235ed418256502bdd0974e", func := "thyrsus/thyrsuslaw6.EqualParts", spec := "equalParts", unfollowed := true, recurses := true, named := ["thyrsus/term.binders"], loops := true, apart := false, laid := [("thyrsus/term.binders", laid_thyrsus_term_binders)] }
def EqualPartsSaid : Prop := equalPartsRow.holds Tryd.pinned (OpenSpec.ofChange equalPartsSpec)

/-- ITS FALSE NEIGHBOUR: 'it returns false'. Refute it at one input. -/
def equalPartsWrong : ChangeSpec := { name := "equalParts", fn := fun _ => fun
  | [d1, d2, d3, d4] => { results := [.lit (.bool false)], args := [d1, d2, d3, d4] }
  | _ => none }
def EqualPartsWrongFalsely : Prop := equalPartsRow.holds Tryd.pinned (OpenSpec.ofChange equalPartsWrong)

/-- 'thyrsuslaw6.EqualEta': WHATEVER THE INPUT: true; the input reads as it did. -/
def equalEtaSpec : ChangeSpec := { name := "equalEta", fn := fun _ => fun
  | [d1, d2, d3, d4] => { results := [.lit (.bool true)], args := [d1, d2, d3, d4] }
  | _ => none }
def equalEtaRow : OpenClaim := { program := "ytleigggcnkacjaadoor", sum := "b85334990818e7d0633be69bfd2614bf5f5c07d366235ed418256502bdd0974e", func := "thyrsus/thyrsuslaw6.EqualEta", spec := "equalEta", unfollowed := true, recurses := true, named := ["thyrsus/term.binders"], loops := true, apart := false, laid := [("thyrsus/term.binders", laid_thyrsus_term_binders)] }
def EqualEtaSaid : Prop := equalEtaRow.holds Tryd.pinned (OpenSpec.ofChange equalEtaSpec)

/-- ITS FALSE NEIGHBOUR: 'it returns false'. Refute it at one input. -/
def equalEtaWrong : ChangeSpec := { name := "equalEta", fn := fun _ => fun
  | [d1, d2, d3, d4] => { results := [.lit (.bool false)], args := [d1, d2, d3, d4] }
  | _ => none }
def EqualEtaWrongFalsely : Prop := equalEtaRow.holds Tryd.pinned (OpenSpec.ofChange equalEtaWrong)

/-- 'thyrsuslaw6.EqualSums': WHATEVER THE INPUT: true; the input reads as it did. -/
def equalSumsSpec : ChangeSpec := { name := "equalSums", fn := fun _ => fun
  | [d1, d2, d3] => { results := [.lit (.bool true)], args := [d1, d2, d3] }
  | _ => none }
def equalSumsRow : OpenClaim := { program := "ytleigggcnkacjaadoor", sum := "b85334990818e7d0633be69bfd2614bf5f5c07d366235ed418256502bdd0974e", func := "thyrsus/thyrsuslaw6.EqualSums", spec := "equalSums", unfollowed := true, recurses := true, named := ["thyrsus/term.binders"], apart := false, laid := [("thyrsus/term.binders", laid_thyrsus_term_binders)] }
def EqualSumsSaid : Prop := equalSumsRow.holds Tryd.pinned (OpenSpec.ofChange equalSumsSpec)

/-- ITS FALSE NEIGHBOUR: 'it returns false'. Refute it at one input. -/
def equalSumsWrong : ChangeSpec := { name := "equalSums", fn := fun _ => fun
  | [d1, d2, d3] => { results := [.lit (.bool false)], args := [d1, d2, d3] }
  | _ => none }
def EqualSumsWrongFalsely : Prop := equalSumsRow.holds Tryd.pinned (OpenSpec.ofChange equalSumsWrong)

/-- 'thyrsuslaw6.EqualThree': WHATEVER THE INPUT: true; the input reads as it did. -/
def equalThreeSpec : ChangeSpec := { name := "equalThree", fn := fun _ => fun
  | [d1, d2, d3, d4, d5] => { results := [.lit (.bool true)], args := [d1, d2, d3, d4, d5] }
  | _ => none }
def equalThreeRow : OpenClaim := { program := "ytleigggcnkacjaadoor", sum := "b85334990818e7d0633be69bfd2614bf5f5c07d366235ed418256502bdd0974e", func := "thyrsus/thyrsuslaw6.EqualThree", spec := "equalThree", unfollowed := true, recurses := true, named := ["thyrsus/term.binders"], loops := true, apart := false, laid := [("thyrsus/term.binders", laid_thyrsus_term_binders)] }
def EqualThreeSaid : Prop := equalThreeRow.holds Tryd.pinned (OpenSpec.ofChange equalThreeSpec)

/-- ITS FALSE NEIGHBOUR: 'it returns false'. Refute it at one input. -/
def equalThreeWrong : ChangeSpec := { name := "equalThree", fn := fun _ => fun
  | [d1, d2, d3, d4, d5] => { results := [.lit (.bool false)], args := [d1, d2, d3, d4, d5] }
  | _ => none }
def EqualThreeWrongFalsely : Prop := equalThreeRow.holds Tryd.pinned (OpenSpec.ofChange equalThreeWrong)

/-- 'thyrsuslaw6.EqualDeep': WHATEVER THE INPUT: true; the input reads as it did. -/
def equalDeepSpec : ChangeSpec := { name := "equalDeep", fn := fun _ => fun
  | [d1, d2] => { results := [.lit (.bool true)], args := [d1, d2] }
  | _ => none }
def equalDeepRow : OpenClaim := { program := "ytleigggcnkacjaadoor", sum := "b85334990818e7d0633be69bfd2614bf5f5c07d366235ed418256502bdd0974e", func := "thyrsus/thyrsuslaw6.EqualDeep", spec := "equalDeep", unfollowed := true, recurses := true, named := ["thyrsus/term.binders"], apart := false, laid := [("thyrsus/term.binders", laid_thyrsus_term_binders)] }
def EqualDeepSaid : Prop := equalDeepRow.holds Tryd.pinned (OpenSpec.ofChange equalDeepSpec)

/-- ITS FALSE NEIGHBOUR: 'it returns false'. Refute it at one input. -/
def equalDeepWrong : ChangeSpec := { name := "equalDeep", fn := fun _ => fun
  | [d1, d2] => { results := [.lit (.bool false)], args := [d1, d2] }
  | _ => none }
def EqualDeepWrongFalsely : Prop := equalDeepRow.holds Tryd.pinned (OpenSpec.ofChange equalDeepWrong)

/-- 'thyrsuslaw6.EqualNot': WHATEVER THE INPUT: true; the input reads as it did. -/
def equalNotSpec : ChangeSpec := { name := "equalNot", fn := fun _ => fun
  | [d] => { results := [.lit (.bool true)], args := [d] }
  | _ => none }
def equalNotRow : OpenClaim := { program := "ytleigggcnkacjaadoor", sum := "b85334990818e7d0633be69bfd2614bf5f5c07d366235ed418256502bdd0974e", func := "thyrsus/thyrsuslaw6.EqualNot", spec := "equalNot", unfollowed := true, recurses := true, named := ["thyrsus/term.binders"], apart := false, laid := [("thyrsus/term.binders", laid_thyrsus_term_binders)] }
def EqualNotSaid : Prop := equalNotRow.holds Tryd.pinned (OpenSpec.ofChange equalNotSpec)

/-- ITS FALSE NEIGHBOUR: 'it returns false'. Refute it at one input. -/
def equalNotWrong : ChangeSpec := { name := "equalNot", fn := fun _ => fun
  | [d] => { results := [.lit (.bool false)], args := [d] }
  | _ => none }
def EqualNotWrongFalsely : Prop := equalNotRow.holds Tryd.pinned (OpenSpec.ofChange equalNotWrong)

/- THE SECOND FORM. 'bulk': how many values and letters a reading holds, each counted each time it is reached (what is shared counts as often as it is met; a slice's spare places count too). A statement '..UptoSaid' is the law's where the arguments, and the package variables that the reading takes, are together of bulk at most 1048576: NARROWER than '..Said'. Prove '..Said' where nothing that the law and all that it calls make is longer than what came in: it says more and counts as full. Else prove '..UptoSaid'. A law counts once. -/
mutual
def uptoBulk {H : Type} : DataW H → Nat
  | .lit (.string bytes) => bytes.length + 1
  | .lit _ => 1
  | .nil => 1
  | .ptr d => uptoBulk d + 1
  | .slice elems spare => uptoBulkAll elems + uptoBulkAll spare + 1
  | .agg parts => uptoBulkAll parts + 1
  | .iface _ d => uptoBulk d + 1
  | .map entries => uptoBulkEntries entries + 1
  | .held _ => 1
def uptoBulkAll {H : Type} : List (DataW H) → Nat
  | [] => 0
  | d :: r => uptoBulk d + uptoBulkAll r
def uptoBulkEntries {H : Type} : List (Lit × DataW H) → Nat
  | [] => 0
  | x :: r => uptoBulkEntry x + uptoBulkEntries r
def uptoBulkEntry {H : Type} : Lit × DataW H → Nat
  | (.string bytes, d) => bytes.length + uptoBulk d + 1
  | (_, d) => uptoBulk d + 1
 end
def uptoSmall : (H : Type) → List (DataW H) → Bool := fun _ ds => decide (uptoBulkAll ds ≤ 1048576)
def OpenSpec.upto (s : _root_.Go.ChangeSpec) : _root_.Go.OpenSpec := { _root_.Go.OpenSpec.ofChange s with cond := some uptoSmall }

/-- 'thyrsuslaw5.NormTerms', WHERE WHAT IT READS IS OF BULK AT MOST 1048576: true; the input reads as it did. -/
def normTermsUptoRow : OpenClaim := { program := "ytleigggcnkacjaadoor", sum := "b85334990818e7d0633be69bfd2614bf5f5c07d366235ed418256502bdd0974e", func := "thyrsus/thyrsuslaw5.NormTerms", spec := "normTerms", unfollowed := true, recurses := true, named := ["thyrsus/term.binders"], loops := true, apart := false, laid := [("thyrsus/term.binders", laid_thyrsus_term_binders)], narrowed := true }
def NormTermsUptoSaid : Prop := normTermsUptoRow.holds Tryd.pinned (OpenSpec.upto normTermsSpec)

/-- 'thyrsuslaw5.NormAgain', WHERE WHAT IT READS IS OF BULK AT MOST 1048576: true; the input reads as it did. -/
def normAgainUptoRow : OpenClaim := { program := "ytleigggcnkacjaadoor", sum := "b85334990818e7d0633be69bfd2614bf5f5c07d366235ed418256502bdd0974e", func := "thyrsus/thyrsuslaw5.NormAgain", spec := "normAgain", unfollowed := true, recurses := true, named := ["thyrsus/term.binders"], loops := true, apart := false, laid := [("thyrsus/term.binders", laid_thyrsus_term_binders)], narrowed := true }
def NormAgainUptoSaid : Prop := normAgainUptoRow.holds Tryd.pinned (OpenSpec.upto normAgainSpec)

/-- 'thyrsuslaw5.NormSteps', WHERE WHAT IT READS IS OF BULK AT MOST 1048576: true; the input reads as it did. -/
def normStepsUptoRow : OpenClaim := { program := "ytleigggcnkacjaadoor", sum := "b85334990818e7d0633be69bfd2614bf5f5c07d366235ed418256502bdd0974e", func := "thyrsus/thyrsuslaw5.NormSteps", spec := "normSteps", unfollowed := true, recurses := true, named := ["thyrsus/term.binders"], loops := true, apart := false, laid := [("thyrsus/term.binders", laid_thyrsus_term_binders)], narrowed := true }
def NormStepsUptoSaid : Prop := normStepsUptoRow.holds Tryd.pinned (OpenSpec.upto normStepsSpec)

/-- 'thyrsuslaw5.NormEta', WHERE WHAT IT READS IS OF BULK AT MOST 1048576: true; the input reads as it did. -/
def normEtaUptoRow : OpenClaim := { program := "ytleigggcnkacjaadoor", sum := "b85334990818e7d0633be69bfd2614bf5f5c07d366235ed418256502bdd0974e", func := "thyrsus/thyrsuslaw5.NormEta", spec := "normEta", unfollowed := true, recurses := true, named := ["thyrsus/term.binders"], loops := true, apart := false, laid := [("thyrsus/term.binders", laid_thyrsus_term_binders)], narrowed := true }
def NormEtaUptoSaid : Prop := normEtaUptoRow.holds Tryd.pinned (OpenSpec.upto normEtaSpec)

/-- 'thyrsuslaw5.NormKnown', WHERE WHAT IT READS IS OF BULK AT MOST 1048576: true; the input reads as it did. -/
def normKnownUptoRow : OpenClaim := { program := "ytleigggcnkacjaadoor", sum := "b85334990818e7d0633be69bfd2614bf5f5c07d366235ed418256502bdd0974e", func := "thyrsus/thyrsuslaw5.NormKnown", spec := "normKnown", unfollowed := true, recurses := true, named := ["thyrsus/term.binders"], apart := false, laid := [("thyrsus/term.binders", laid_thyrsus_term_binders)], narrowed := true }
def NormKnownUptoSaid : Prop := normKnownUptoRow.holds Tryd.pinned (OpenSpec.upto normKnownSpec)

/-- 'thyrsuslaw5.NormParts', WHERE WHAT IT READS IS OF BULK AT MOST 1048576: true; the input reads as it did. -/
def normPartsUptoRow : OpenClaim := { program := "ytleigggcnkacjaadoor", sum := "b85334990818e7d0633be69bfd2614bf5f5c07d366235ed418256502bdd0974e", func := "thyrsus/thyrsuslaw5.NormParts", spec := "normParts", unfollowed := true, recurses := true, named := ["thyrsus/term.binders"], loops := true, apart := false, laid := [("thyrsus/term.binders", laid_thyrsus_term_binders)], narrowed := true }
def NormPartsUptoSaid : Prop := normPartsUptoRow.holds Tryd.pinned (OpenSpec.upto normPartsSpec)

/-- 'thyrsuslaw5.NormShift', WHERE WHAT IT READS IS OF BULK AT MOST 1048576: true; the input reads as it did. -/
def normShiftUptoRow : OpenClaim := { program := "ytleigggcnkacjaadoor", sum := "b85334990818e7d0633be69bfd2614bf5f5c07d366235ed418256502bdd0974e", func := "thyrsus/thyrsuslaw5.NormShift", spec := "normShift", unfollowed := true, recurses := true, named := ["thyrsus/term.binders"], loops := true, apart := false, laid := [("thyrsus/term.binders", laid_thyrsus_term_binders)], narrowed := true }
def NormShiftUptoSaid : Prop := normShiftUptoRow.holds Tryd.pinned (OpenSpec.upto normShiftSpec)

/-- 'thyrsuslaw5.NormSubst', WHERE WHAT IT READS IS OF BULK AT MOST 1048576: true; the input reads as it did. -/
def normSubstUptoRow : OpenClaim := { program := "ytleigggcnkacjaadoor", sum := "b85334990818e7d0633be69bfd2614bf5f5c07d366235ed418256502bdd0974e", func := "thyrsus/thyrsuslaw5.NormSubst", spec := "normSubst", unfollowed := true, recurses := true, named := ["thyrsus/term.binders"], loops := true, apart := false, laid := [("thyrsus/term.binders", laid_thyrsus_term_binders)], narrowed := true }
def NormSubstUptoSaid : Prop := normSubstUptoRow.holds Tryd.pinned (OpenSpec.upto normSubstSpec)

/-- 'thyrsuslaw6.EqualAll', WHERE WHAT IT READS IS OF BULK AT MOST 1048576: true; the input reads as it did. -/
def equalAllUptoRow : OpenClaim := { program := "ytleigggcnkacjaadoor", sum := "b85334990818e7d0633be69bfd2614bf5f5c07d366235ed418256502bdd0974e", func := "thyrsus/thyrsuslaw6.EqualAll", spec := "equalAll", unfollowed := true, recurses := true, named := ["thyrsus/term.binders"], loops := true, apart := false, laid := [("thyrsus/term.binders", laid_thyrsus_term_binders)], narrowed := true }
def EqualAllUptoSaid : Prop := equalAllUptoRow.holds Tryd.pinned (OpenSpec.upto equalAllSpec)

/-- 'thyrsuslaw6.EqualParts', WHERE WHAT IT READS IS OF BULK AT MOST 1048576: true; the input reads as it did. -/
def equalPartsUptoRow : OpenClaim := { program := "ytleigggcnkacjaadoor", sum := "b85334990818e7d0633be69bfd2614bf5f5c07d366235ed418256502bdd0974e", func := "thyrsus/thyrsuslaw6.EqualParts", spec := "equalParts", unfollowed := true, recurses := true, named := ["thyrsus/term.binders"], loops := true, apart := false, laid := [("thyrsus/term.binders", laid_thyrsus_term_binders)], narrowed := true }
def EqualPartsUptoSaid : Prop := equalPartsUptoRow.holds Tryd.pinned (OpenSpec.upto equalPartsSpec)

/-- 'thyrsuslaw6.EqualEta', WHERE WHAT IT READS IS OF BULK AT MOST 1048576: true; the input reads as it did. -/
def equalEtaUptoRow : OpenClaim := { program := "ytleigggcnkacjaadoor", sum := "b85334990818e7d0633be69bfd2614bf5f5c07d366235ed418256502bdd0974e", func := "thyrsus/thyrsuslaw6.EqualEta", spec := "equalEta", unfollowed := true, recurses := true, named := ["thyrsus/term.binders"], loops := true, apart := false, laid := [("thyrsus/term.binders", laid_thyrsus_term_binders)], narrowed := true }
def EqualEtaUptoSaid : Prop := equalEtaUptoRow.holds Tryd.pinned (OpenSpec.upto equalEtaSpec)

/-- 'thyrsuslaw6.EqualSums', WHERE WHAT IT READS IS OF BULK AT MOST 1048576: true; the input reads as it did. -/
def equalSumsUptoRow : OpenClaim := { program := "ytleigggcnkacjaadoor", sum := "b85334990818e7d0633be69bfd2614bf5f5c07d366235ed418256502bdd0974e", func := "thyrsus/thyrsuslaw6.EqualSums", spec := "equalSums", unfollowed := true, recurses := true, named := ["thyrsus/term.binders"], apart := false, laid := [("thyrsus/term.binders", laid_thyrsus_term_binders)], narrowed := true }
def EqualSumsUptoSaid : Prop := equalSumsUptoRow.holds Tryd.pinned (OpenSpec.upto equalSumsSpec)

/-- 'thyrsuslaw6.EqualThree', WHERE WHAT IT READS IS OF BULK AT MOST 1048576: true; the input reads as it did. -/
def equalThreeUptoRow : OpenClaim := { program := "ytleigggcnkacjaadoor", sum := "b85334990818e7d0633be69bfd2614bf5f5c07d366235ed418256502bdd0974e", func := "thyrsus/thyrsuslaw6.EqualThree", spec := "equalThree", unfollowed := true, recurses := true, named := ["thyrsus/term.binders"], loops := true, apart := false, laid := [("thyrsus/term.binders", laid_thyrsus_term_binders)], narrowed := true }
def EqualThreeUptoSaid : Prop := equalThreeUptoRow.holds Tryd.pinned (OpenSpec.upto equalThreeSpec)

/-- 'thyrsuslaw6.EqualDeep', WHERE WHAT IT READS IS OF BULK AT MOST 1048576: true; the input reads as it did. -/
def equalDeepUptoRow : OpenClaim := { program := "ytleigggcnkacjaadoor", sum := "b85334990818e7d0633be69bfd2614bf5f5c07d366235ed418256502bdd0974e", func := "thyrsus/thyrsuslaw6.EqualDeep", spec := "equalDeep", unfollowed := true, recurses := true, named := ["thyrsus/term.binders"], apart := false, laid := [("thyrsus/term.binders", laid_thyrsus_term_binders)], narrowed := true }
def EqualDeepUptoSaid : Prop := equalDeepUptoRow.holds Tryd.pinned (OpenSpec.upto equalDeepSpec)

/-- 'thyrsuslaw6.EqualNot', WHERE WHAT IT READS IS OF BULK AT MOST 1048576: true; the input reads as it did. -/
def equalNotUptoRow : OpenClaim := { program := "ytleigggcnkacjaadoor", sum := "b85334990818e7d0633be69bfd2614bf5f5c07d366235ed418256502bdd0974e", func := "thyrsus/thyrsuslaw6.EqualNot", spec := "equalNot", unfollowed := true, recurses := true, named := ["thyrsus/term.binders"], apart := false, laid := [("thyrsus/term.binders", laid_thyrsus_term_binders)], narrowed := true }
def EqualNotUptoSaid : Prop := equalNotUptoRow.holds Tryd.pinned (OpenSpec.upto equalNotSpec)

end Rows
end Go.Proofs.YtleigggcnkacjaaDoor
