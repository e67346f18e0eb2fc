/-
  NARROWER THAN 'FOR EVERY INPUT', by the rows' own cells (each row's printed sentence says how): NormTerms: loops, laid · NormAgain: loops, laid · NormSteps: loops, laid · NormEta: loops, laid · NormDeep: laid · NormNumbers: laid.
  DERIVED. THE GIVEN ROWS OF THIS SEAT. 6 by the template 'for every input the law returns true; each argument reads behind the call as it read before'; 0 by the template 'total and deterministic' (their statements: YtjiecahopdaghaaDoorTotals.lean).
  GIVEN WITH THE SEED: the statements are not yours to turn. If you find one false, say at which input.
  Laid BY PROGRAM, IN A SANDBOX (cutbox-rows.mjs): the forced cells as the released guide's own fill.sh prints them over the translation c3b4a1eda1d39f47… (all of the seat's roots in one cut). By AI agents, Wed Nov 11 2026. No macro, syntax, notation, axiom, sorry.
-/
import Derived.Test.YtjiecahopdaghaaDoorChecked
import GoSem.Claim
import GoSem.ClaimJoined
import GoSem.ClaimMapViews
import Derived.JoinedTies
import Derived.KernelRfl
namespace Go.Proofs.YtjiecahopdaghaaDoor
/- THE CELL 'sum', in the pinned program and in every row, IS THE sha256 OF THE DUMP (.gsa) THAT YtjiecahopdaghaaDoorProg.lean LOADS. Nothing in Lean hashes anything: it is a label: what it is worth is what the hold of that sum in a sandbox is worth. -/
noncomputable def Tryd.pinned : Pinned := { name := "ytjiecahopdaghaadoor", sum := "c3b4a1eda1d39f47c3b1f50eadf95cc4081af8925dfd943657bfa94b01f0f150", checked := Tryd.checked }
namespace Rows
def none {H : Type} : Left H := { results := [], args := [] }

/- WHAT THE LISTED PACKAGE-LEVEL VARIABLES READ AS WHEN THE CALL BEGINS. Each datum BY PROGRAM (the guide's laid-datum.mjs) off the statement by which the dump's own 'gosem.cut.vars' lays the variable. In a bare row this is a premise. The card (YtjiecahopdaghaaDoorCards.lean) ties it to the program's text. -/
def laid_thyrsus_term_binders {H : Type} : DataW H := .agg [.agg [.lit (.int .i8 0), .lit (.int .i8 0), .lit (.int .i8 0), .lit (.int .i8 0)], .agg [.lit (.int .i8 0), .lit (.int .i8 0), .lit (.int .i8 0), .lit (.int .i8 0)], .agg [.lit (.int .i8 0), .lit (.int .i8 0), .lit (.int .i8 0), .lit (.int .i8 0)], .agg [.lit (.int .i8 0), .lit (.int .i8 1), .lit (.int .i8 0), .lit (.int .i8 0)], .agg [.lit (.int .i8 0), .lit (.int .i8 1), .lit (.int .i8 0), .lit (.int .i8 0)], .agg [.lit (.int .i8 0), .lit (.int .i8 0), .lit (.int .i8 0), .lit (.int .i8 0)], .agg [.lit (.int .i8 0), .lit (.int .i8 1), .lit (.int .i8 0), .lit (.int .i8 0)], .agg [.lit (.int .i8 0), .lit (.int .i8 0), .lit (.int .i8 0), .lit (.int .i8 0)], .agg [.lit (.int .i8 0), .lit (.int .i8 0), .lit (.int .i8 0), .lit (.int .i8 0)], .agg [.lit (.int .i8 0), .lit (.int .i8 0), .lit (.int .i8 0), .lit (.int .i8 0)], .agg [.lit (.int .i8 0), .lit (.int .i8 0), .lit (.int .i8 0), .lit (.int .i8 0)], .agg [.lit (.int .i8 0), .lit (.int .i8 0), .lit (.int .i8 0), .lit (.int .i8 0)], .agg [.lit (.int .i8 0), .lit (.int .i8 0), .lit (.int .i8 0), .lit (.int .i8 0)], .agg [.lit (.int .i8 1), .lit (.int .i8 0), .lit (.int .i8 2), .lit (.int .i8 0)], .agg [.lit (.int .i8 0), .lit (.int .i8 0), .lit (.int .i8 0), .lit (.int .i8 0)], .agg [.lit (.int .i8 0), .lit (.int .i8 0), .lit (.int .i8 0), .lit (.int .i8 0)], .agg [.lit (.int .i8 0), .lit (.int .i8 0), .lit (.int .i8 0), .lit (.int .i8 0)], .agg [.lit (.int .i8 0), .lit (.int .i8 0), .lit (.int .i8 0), .lit (.int .i8 0)], .agg [.lit (.int .i8 0), .lit (.int .i8 0), .lit (.int .i8 0), .lit (.int .i8 0)], .agg [.lit (.int .i8 0), .lit (.int .i8 0), .lit (.int .i8 0), .lit (.int .i8 0)], .agg [.lit (.int .i8 0), .lit (.int .i8 1), .lit (.int .i8 0), .lit (.int .i8 0)], .agg [.lit (.int .i8 0), .lit (.int .i8 0), .lit (.int .i8 0), .lit (.int .i8 0)], .agg [.lit (.int .i8 0), .lit (.int .i8 0), .lit (.int .i8 0), .lit (.int .i8 0)], .agg [.lit (.int .i8 0), .lit (.int .i8 0), .lit (.int .i8 0), .lit (.int .i8 0)], .agg [.lit (.int .i8 0), .lit (.int .i8 0), .lit (.int .i8 0), .lit (.int .i8 0)], .agg [.lit (.int .i8 0), .lit (.int .i8 0), .lit (.int .i8 0), .lit (.int .i8 0)], .agg [.lit (.int .i8 0), .lit (.int .i8 0), .lit (.int .i8 0), .lit (.int .i8 0)], .agg [.lit (.int .i8 0), .lit (.int .i8 0), .lit (.int .i8 0), .lit (.int .i8 0)], .agg [.lit (.int .i8 0), .lit (.int .i8 1), .lit (.int .i8 0), .lit (.int .i8 0)], .agg [.lit (.int .i8 0), .lit (.int .i8 1), .lit (.int .i8 0), .lit (.int .i8 0)], .agg [.lit (.int .i8 0), .lit (.int .i8 0), .lit (.int .i8 0), .lit (.int .i8 0)]]

/-- 'thyrsuslaw5.NormTerms': WHATEVER THE INPUT: true; the input reads as it did. -/
def normTermsSpec : ChangeSpec := { name := "normTerms", fn := fun _ => fun
  | [d1, d2, d3, d4] => { results := [.lit (.bool true)], args := [d1, d2, d3, d4] }
  | _ => none }
def normTermsRow : OpenClaim := { program := "ytjiecahopdaghaadoor", sum := "c3b4a1eda1d39f47c3b1f50eadf95cc4081af8925dfd943657bfa94b01f0f150", func := "thyrsus/thyrsuslaw5.NormTerms", spec := "normTerms", unfollowed := true, recurses := true, named := ["thyrsus/term.binders"], loops := true, apart := false, laid := [("thyrsus/term.binders", laid_thyrsus_term_binders)] }
def NormTermsSaid : Prop := normTermsRow.holds Tryd.pinned (OpenSpec.ofChange normTermsSpec)

/-- ITS FALSE NEIGHBOUR: 'it returns false'. Refute it at one input. -/
def normTermsWrong : ChangeSpec := { name := "normTerms", fn := fun _ => fun
  | [d1, d2, d3, d4] => { results := [.lit (.bool false)], args := [d1, d2, d3, d4] }
  | _ => none }
def NormTermsWrongFalsely : Prop := normTermsRow.holds Tryd.pinned (OpenSpec.ofChange normTermsWrong)

/-- 'thyrsuslaw5.NormAgain': WHATEVER THE INPUT: true; the input reads as it did. -/
def normAgainSpec : ChangeSpec := { name := "normAgain", fn := fun _ => fun
  | [d1, d2, d3, d4] => { results := [.lit (.bool true)], args := [d1, d2, d3, d4] }
  | _ => none }
def normAgainRow : OpenClaim := { program := "ytjiecahopdaghaadoor", sum := "c3b4a1eda1d39f47c3b1f50eadf95cc4081af8925dfd943657bfa94b01f0f150", func := "thyrsus/thyrsuslaw5.NormAgain", spec := "normAgain", unfollowed := true, recurses := true, named := ["thyrsus/term.binders"], loops := true, apart := false, laid := [("thyrsus/term.binders", laid_thyrsus_term_binders)] }
def NormAgainSaid : Prop := normAgainRow.holds Tryd.pinned (OpenSpec.ofChange normAgainSpec)

/-- ITS FALSE NEIGHBOUR: 'it returns false'. Refute it at one input. -/
def normAgainWrong : ChangeSpec := { name := "normAgain", fn := fun _ => fun
  | [d1, d2, d3, d4] => { results := [.lit (.bool false)], args := [d1, d2, d3, d4] }
  | _ => none }
def NormAgainWrongFalsely : Prop := normAgainRow.holds Tryd.pinned (OpenSpec.ofChange normAgainWrong)

/-- 'thyrsuslaw5.NormSteps': WHATEVER THE INPUT: true; the input reads as it did. -/
def normStepsSpec : ChangeSpec := { name := "normSteps", fn := fun _ => fun
  | [d1, d2, d3, d4, d5] => { results := [.lit (.bool true)], args := [d1, d2, d3, d4, d5] }
  | _ => none }
def normStepsRow : OpenClaim := { program := "ytjiecahopdaghaadoor", sum := "c3b4a1eda1d39f47c3b1f50eadf95cc4081af8925dfd943657bfa94b01f0f150", func := "thyrsus/thyrsuslaw5.NormSteps", spec := "normSteps", unfollowed := true, recurses := true, named := ["thyrsus/term.binders"], loops := true, apart := false, laid := [("thyrsus/term.binders", laid_thyrsus_term_binders)] }
def NormStepsSaid : Prop := normStepsRow.holds Tryd.pinned (OpenSpec.ofChange normStepsSpec)

/-- ITS FALSE NEIGHBOUR: 'it returns false'. Refute it at one input. -/
def normStepsWrong : ChangeSpec := { name := "normSteps", fn := fun _ => fun
  | [d1, d2, d3, d4, d5] => { results := [.lit (.bool false)], args := [d1, d2, d3, d4, d5] }
  | _ => none }
def NormStepsWrongFalsely : Prop := normStepsRow.holds Tryd.pinned (OpenSpec.ofChange normStepsWrong)

/-- 'thyrsuslaw5.NormEta': WHATEVER THE INPUT: true; the input reads as it did. -/
def normEtaSpec : ChangeSpec := { name := "normEta", fn := fun _ => fun
  | [d1, d2, d3] => { results := [.lit (.bool true)], args := [d1, d2, d3] }
  | _ => none }
def normEtaRow : OpenClaim := { program := "ytjiecahopdaghaadoor", sum := "c3b4a1eda1d39f47c3b1f50eadf95cc4081af8925dfd943657bfa94b01f0f150", func := "thyrsus/thyrsuslaw5.NormEta", spec := "normEta", unfollowed := true, recurses := true, named := ["thyrsus/term.binders"], loops := true, apart := false, laid := [("thyrsus/term.binders", laid_thyrsus_term_binders)] }
def NormEtaSaid : Prop := normEtaRow.holds Tryd.pinned (OpenSpec.ofChange normEtaSpec)

/-- ITS FALSE NEIGHBOUR: 'it returns false'. Refute it at one input. -/
def normEtaWrong : ChangeSpec := { name := "normEta", fn := fun _ => fun
  | [d1, d2, d3] => { results := [.lit (.bool false)], args := [d1, d2, d3] }
  | _ => none }
def NormEtaWrongFalsely : Prop := normEtaRow.holds Tryd.pinned (OpenSpec.ofChange normEtaWrong)

/-- 'thyrsuslaw5.NormDeep': WHATEVER THE INPUT: true; the input reads as it did. -/
def normDeepSpec : ChangeSpec := { name := "normDeep", fn := fun _ => fun
  | [d] => { results := [.lit (.bool true)], args := [d] }
  | _ => none }
def normDeepRow : OpenClaim := { program := "ytjiecahopdaghaadoor", sum := "c3b4a1eda1d39f47c3b1f50eadf95cc4081af8925dfd943657bfa94b01f0f150", func := "thyrsus/thyrsuslaw5.NormDeep", spec := "normDeep", unfollowed := true, recurses := true, named := ["thyrsus/term.binders"], apart := false, laid := [("thyrsus/term.binders", laid_thyrsus_term_binders)] }
def NormDeepSaid : Prop := normDeepRow.holds Tryd.pinned (OpenSpec.ofChange normDeepSpec)

/-- ITS FALSE NEIGHBOUR: 'it returns false'. Refute it at one input. -/
def normDeepWrong : ChangeSpec := { name := "normDeep", fn := fun _ => fun
  | [d] => { results := [.lit (.bool false)], args := [d] }
  | _ => none }
def NormDeepWrongFalsely : Prop := normDeepRow.holds Tryd.pinned (OpenSpec.ofChange normDeepWrong)

/-- 'thyrsuslaw5.NormNumbers': WHATEVER THE INPUT: true; the input reads as it did. -/
def normNumbersSpec : ChangeSpec := { name := "normNumbers", fn := fun _ => fun
  | [d1, d2] => { results := [.lit (.bool true)], args := [d1, d2] }
  | _ => none }
def normNumbersRow : OpenClaim := { program := "ytjiecahopdaghaadoor", sum := "c3b4a1eda1d39f47c3b1f50eadf95cc4081af8925dfd943657bfa94b01f0f150", func := "thyrsus/thyrsuslaw5.NormNumbers", spec := "normNumbers", unfollowed := true, recurses := true, named := ["thyrsus/term.binders"], apart := false, laid := [("thyrsus/term.binders", laid_thyrsus_term_binders)] }
def NormNumbersSaid : Prop := normNumbersRow.holds Tryd.pinned (OpenSpec.ofChange normNumbersSpec)

/-- ITS FALSE NEIGHBOUR: 'it returns false'. Refute it at one input. -/
def normNumbersWrong : ChangeSpec := { name := "normNumbers", fn := fun _ => fun
  | [d1, d2] => { results := [.lit (.bool false)], args := [d1, d2] }
  | _ => none }
def NormNumbersWrongFalsely : Prop := normNumbersRow.holds Tryd.pinned (OpenSpec.ofChange normNumbersWrong)

/- THE SECOND FORM. 'bulk': how many values and letters a reading holds, each counted each time it is reached (what is shared counts as often as it is met; a slice's spare places count too). A statement '..UptoSaid' is the law's where the arguments, and the package variables that the reading takes, are together of bulk at most 1048576: NARROWER than '..Said'. Prove '..Said' where nothing that the law and all that it calls make is longer than what came in: it says more and counts as full. Else prove '..UptoSaid'. A law counts once. -/
mutual
def uptoBulk {H : Type} : DataW H → Nat
  | .lit (.string bytes) => bytes.length + 1
  | .lit _ => 1
  | .nil => 1
  | .ptr d => uptoBulk d + 1
  | .slice elems spare => uptoBulkAll elems + uptoBulkAll spare + 1
  | .agg parts => uptoBulkAll parts + 1
  | .iface _ d => uptoBulk d + 1
  | .map entries => uptoBulkEntries entries + 1
  | .held _ => 1
def uptoBulkAll {H : Type} : List (DataW H) → Nat
  | [] => 0
  | d :: r => uptoBulk d + uptoBulkAll r
def uptoBulkEntries {H : Type} : List (Lit × DataW H) → Nat
  | [] => 0
  | x :: r => uptoBulkEntry x + uptoBulkEntries r
def uptoBulkEntry {H : Type} : Lit × DataW H → Nat
  | (.string bytes, d) => bytes.length + uptoBulk d + 1
  | (_, d) => uptoBulk d + 1
 end
def uptoSmall : (H : Type) → List (DataW H) → Bool := fun _ ds => decide (uptoBulkAll ds ≤ 1048576)
def OpenSpec.upto (s : _root_.Go.ChangeSpec) : _root_.Go.OpenSpec := { _root_.Go.OpenSpec.ofChange s with cond := some uptoSmall }

/-- 'thyrsuslaw5.NormTerms', WHERE WHAT IT READS IS OF BULK AT MOST 1048576: true; the input reads as it did. -/
def normTermsUptoRow : OpenClaim := { program := "ytjiecahopdaghaadoor", sum := "c3b4a1eda1d39f47c3b1f50eadf95cc4081af8925dfd943657bfa94b01f0f150", func := "thyrsus/thyrsuslaw5.NormTerms", spec := "normTerms", unfollowed := true, recurses := true, named := ["thyrsus/term.binders"], loops := true, apart := false, laid := [("thyrsus/term.binders", laid_thyrsus_term_binders)], narrowed := true }
def NormTermsUptoSaid : Prop := normTermsUptoRow.holds Tryd.pinned (OpenSpec.upto normTermsSpec)

/-- 'thyrsuslaw5.NormAgain', WHERE WHAT IT READS IS OF BULK AT MOST 1048576: true; the input reads as it did. -/
def normAgainUptoRow : OpenClaim := { program := "ytjiecahopdaghaadoor", sum := "c3b4a1eda1d39f47c3b1f50eadf95cc4081af8925dfd943657bfa94b01f0f150", func := "thyrsus/thyrsuslaw5.NormAgain", spec := "normAgain", unfollowed := true, recurses := true, named := ["thyrsus/term.binders"], loops := true, apart := false, laid := [("thyrsus/term.binders", laid_thyrsus_term_binders)], narrowed := true }
def NormAgainUptoSaid : Prop := normAgainUptoRow.holds Tryd.pinned (OpenSpec.upto normAgainSpec)

/-- 'thyrsuslaw5.NormSteps', WHERE WHAT IT READS IS OF BULK AT MOST 1048576: true; the input reads as it did. -/
def normStepsUptoRow : OpenClaim := { program := "ytjiecahopdaghaadoor", sum := "c3b4a1eda1d39f47c3b1f50eadf95cc4081af8925dfd943657bfa94b01f0f150", func := "thyrsus/thyrsuslaw5.NormSteps", spec := "normSteps", unfollowed := true, recurses := true, named := ["thyrsus/term.binders"], loops := true, apart := false, laid := [("thyrsus/term.binders", laid_thyrsus_term_binders)], narrowed := true }
def NormStepsUptoSaid : Prop := normStepsUptoRow.holds Tryd.pinned (OpenSpec.upto normStepsSpec)

/-- 'thyrsuslaw5.NormEta', WHERE WHAT IT READS IS OF BULK AT MOST 1048576: true; the input reads as it did. -/
def normEtaUptoRow : OpenClaim := { program := "ytjiecahopdaghaadoor", sum := "c3b4a1eda1d39f47c3b1f50eadf95cc4081af8925dfd943657bfa94b01f0f150", func := "thyrsus/thyrsuslaw5.NormEta", spec := "normEta", unfollowed := true, recurses := true, named := ["thyrsus/term.binders"], loops := true, apart := false, laid := [("thyrsus/term.binders", laid_thyrsus_term_binders)], narrowed := true }
def NormEtaUptoSaid : Prop := normEtaUptoRow.holds Tryd.pinned (OpenSpec.upto normEtaSpec)

/-- 'thyrsuslaw5.NormDeep', WHERE WHAT IT READS IS OF BULK AT MOST 1048576: true; the input reads as it did. -/
def normDeepUptoRow : OpenClaim := { program := "ytjiecahopdaghaadoor", sum := "c3b4a1eda1d39f47c3b1f50eadf95cc4081af8925dfd943657bfa94b01f0f150", func := "thyrsus/thyrsuslaw5.NormDeep", spec := "normDeep", unfollowed := true, recurses := true, named := ["thyrsus/term.binders"], apart := false, laid := [("thyrsus/term.binders", laid_thyrsus_term_binders)], narrowed := true }
def NormDeepUptoSaid : Prop := normDeepUptoRow.holds Tryd.pinned (OpenSpec.upto normDeepSpec)

/-- 'thyrsuslaw5.NormNumbers', WHERE WHAT IT READS IS OF BULK AT MOST 1048576: true; the input reads as it did. -/
def normNumbersUptoRow : OpenClaim := { program := "ytjiecahopdaghaadoor", sum := "c3b4a1eda1d39f47c3b1f50eadf95cc4081af8925dfd943657bfa94b01f0f150", func := "thyrsus/thyrsuslaw5.NormNumbers", spec := "normNumbers", unfollowed := true, recurses := true, named := ["thyrsus/term.binders"], apart := false, laid := [("thyrsus/term.binders", laid_thyrsus_term_binders)], narrowed := true }
def NormNumbersUptoSaid : Prop := normNumbersUptoRow.holds Tryd.pinned (OpenSpec.upto normNumbersSpec)

end Rows
end Go.Proofs.YtjiecahopdaghaaDoor
