/-
  NARROWER THAN 'FOR EVERY INPUT', by the rows' own cells (each row's printed sentence says how): StagePower: laid · StageKnown: laid · StageTwice: laid.
  DERIVED. THE GIVEN ROWS OF THIS SEAT. 3 by the template 'for every input the law returns true; each argument reads behind the call as it read before'; 0 by the template 'total and deterministic' (their statements: YthccgmgmgcinnaaDoorTotals.lean).
  GIVEN WITH THE SEED: the statements are not yours to turn. If you find one false, say at which input.
  Laid BY PROGRAM, IN A SANDBOX (cutbox-rows.mjs): the forced cells as the released guide's own fill.sh prints them over the translation 2eaf64d114ae7402… (all of the seat's roots in one cut). By AI agents, Wed Nov 11 2026. No macro, syntax, notation, axiom, sorry.
-/
import Derived.Test.YthccgmgmgcinnaaDoorChecked
import GoSem.Claim
import GoSem.ClaimJoined
import GoSem.ClaimMapViews
import Derived.JoinedTies
import Derived.KernelRfl
namespace Go.Proofs.YthccgmgmgcinnaaDoor
/- THE CELL 'sum', in the pinned program and in every row, IS THE sha256 OF THE DUMP (.gsa) THAT YthccgmgmgcinnaaDoorProg.lean LOADS. Nothing in Lean hashes anything: it is a label: what it is worth is what the hold of that sum in a sandbox is worth. -/
noncomputable def Tryd.pinned : Pinned := { name := "ythccgmgmgcinnaadoor", sum := "2eaf64d114ae740207b5f66055be20ad64a10b74dfa8ad6b52811af2ef1f3cab", checked := Tryd.checked }
namespace Rows
def none {H : Type} : Left H := { results := [], args := [] }

/- WHAT THE LISTED PACKAGE-LEVEL VARIABLES READ AS WHEN THE CALL BEGINS. Each datum BY PROGRAM (the guide's laid-datum.mjs) off the statement by which the dump's own 'gosem.cut.vars' lays the variable. In a bare row this is a premise. The card (YthccgmgmgcinnaaDoorCards.lean) ties it to the program's text. -/
def laid_thyrsus_term_binders {H : Type} : DataW H := .agg [.agg [.lit (.int .i8 0), .lit (.int .i8 0), .lit (.int .i8 0), .lit (.int .i8 0)], .agg [.lit (.int .i8 0), .lit (.int .i8 0), .lit (.int .i8 0), .lit (.int .i8 0)], .agg [.lit (.int .i8 0), .lit (.int .i8 0), .lit (.int .i8 0), .lit (.int .i8 0)], .agg [.lit (.int .i8 0), .lit (.int .i8 1), .lit (.int .i8 0), .lit (.int .i8 0)], .agg [.lit (.int .i8 0), .lit (.int .i8 1), .lit (.int .i8 0), .lit (.int .i8 0)], .agg [.lit (.int .i8 0), .lit (.int .i8 0), .lit (.int .i8 0), .lit (.int .i8 0)], .agg [.lit (.int .i8 0), .lit (.int .i8 1), .lit (.int .i8 0), .lit (.int .i8 0)], .agg [.lit (.int .i8 0), .lit (.int .i8 0), .lit (.int .i8 0), .lit (.int .i8 0)], .agg [.lit (.int .i8 0), .lit (.int .i8 0), .lit (.int .i8 0), .lit (.int .i8 0)], .agg [.lit (.int .i8 0), .lit (.int .i8 0), .lit (.int .i8 0), .lit (.int .i8 0)], .agg [.lit (.int .i8 0), .lit (.int .i8 0), .lit (.int .i8 0), .lit (.int .i8 0)], .agg [.lit (.int .i8 0), .lit (.int .i8 0), .lit (.int .i8 0), .lit (.int .i8 0)], .agg [.lit (.int .i8 0), .lit (.int .i8 0), .lit (.int .i8 0), .lit (.int .i8 0)], .agg [.lit (.int .i8 1), .lit (.int .i8 0), .lit (.int .i8 2), .lit (.int .i8 0)], .agg [.lit (.int .i8 0), .lit (.int .i8 0), .lit (.int .i8 0), .lit (.int .i8 0)], .agg [.lit (.int .i8 0), .lit (.int .i8 0), .lit (.int .i8 0), .lit (.int .i8 0)], .agg [.lit (.int .i8 0), .lit (.int .i8 0), .lit (.int .i8 0), .lit (.int .i8 0)], .agg [.lit (.int .i8 0), .lit (.int .i8 0), .lit (.int .i8 0), .lit (.int .i8 0)], .agg [.lit (.int .i8 0), .lit (.int .i8 0), .lit (.int .i8 0), .lit (.int .i8 0)], .agg [.lit (.int .i8 0), .lit (.int .i8 0), .lit (.int .i8 0), .lit (.int .i8 0)], .agg [.lit (.int .i8 0), .lit (.int .i8 1), .lit (.int .i8 0), .lit (.int .i8 0)], .agg [.lit (.int .i8 0), .lit (.int .i8 0), .lit (.int .i8 0), .lit (.int .i8 0)], .agg [.lit (.int .i8 0), .lit (.int .i8 0), .lit (.int .i8 0), .lit (.int .i8 0)], .agg [.lit (.int .i8 0), .lit (.int .i8 0), .lit (.int .i8 0), .lit (.int .i8 0)], .agg [.lit (.int .i8 0), .lit (.int .i8 0), .lit (.int .i8 0), .lit (.int .i8 0)], .agg [.lit (.int .i8 0), .lit (.int .i8 0), .lit (.int .i8 0), .lit (.int .i8 0)], .agg [.lit (.int .i8 0), .lit (.int .i8 0), .lit (.int .i8 0), .lit (.int .i8 0)], .agg [.lit (.int .i8 0), .lit (.int .i8 0), .lit (.int .i8 0), .lit (.int .i8 0)], .agg [.lit (.int .i8 0), .lit (.int .i8 1), .lit (.int .i8 0), .lit (.int .i8 0)], .agg [.lit (.int .i8 0), .lit (.int .i8 1), .lit (.int .i8 0), .lit (.int .i8 0)], .agg [.lit (.int .i8 0), .lit (.int .i8 0), .lit (.int .i8 0), .lit (.int .i8 0)]]

/-- 'thyrsuslaw10.StagePower': WHATEVER THE INPUT: true; the input reads as it did. -/
def stagePowerSpec : ChangeSpec := { name := "stagePower", fn := fun _ => fun
  | [d1, d2] => { results := [.lit (.bool true)], args := [d1, d2] }
  | _ => none }
def stagePowerRow : OpenClaim := { program := "ythccgmgmgcinnaadoor", sum := "2eaf64d114ae740207b5f66055be20ad64a10b74dfa8ad6b52811af2ef1f3cab", func := "thyrsus/thyrsuslaw10.StagePower", spec := "stagePower", unfollowed := true, recurses := true, named := ["thyrsus/term.binders"], apart := false, laid := [("thyrsus/term.binders", laid_thyrsus_term_binders)] }
def StagePowerSaid : Prop := stagePowerRow.holds Tryd.pinned (OpenSpec.ofChange stagePowerSpec)

/-- ITS FALSE NEIGHBOUR: 'it returns false'. Refute it at one input. -/
def stagePowerWrong : ChangeSpec := { name := "stagePower", fn := fun _ => fun
  | [d1, d2] => { results := [.lit (.bool false)], args := [d1, d2] }
  | _ => none }
def StagePowerWrongFalsely : Prop := stagePowerRow.holds Tryd.pinned (OpenSpec.ofChange stagePowerWrong)

/-- 'thyrsuslaw10.StageKnown': WHATEVER THE INPUT: true; the input reads as it did. -/
def stageKnownSpec : ChangeSpec := { name := "stageKnown", fn := fun _ => fun
  | [d] => { results := [.lit (.bool true)], args := [d] }
  | _ => none }
def stageKnownRow : OpenClaim := { program := "ythccgmgmgcinnaadoor", sum := "2eaf64d114ae740207b5f66055be20ad64a10b74dfa8ad6b52811af2ef1f3cab", func := "thyrsus/thyrsuslaw10.StageKnown", spec := "stageKnown", unfollowed := true, recurses := true, named := ["thyrsus/term.binders"], apart := false, laid := [("thyrsus/term.binders", laid_thyrsus_term_binders)] }
def StageKnownSaid : Prop := stageKnownRow.holds Tryd.pinned (OpenSpec.ofChange stageKnownSpec)

/-- ITS FALSE NEIGHBOUR: 'it returns false'. Refute it at one input. -/
def stageKnownWrong : ChangeSpec := { name := "stageKnown", fn := fun _ => fun
  | [d] => { results := [.lit (.bool false)], args := [d] }
  | _ => none }
def StageKnownWrongFalsely : Prop := stageKnownRow.holds Tryd.pinned (OpenSpec.ofChange stageKnownWrong)

/-- 'thyrsuslaw10.StageTwice': WHATEVER THE INPUT: true; the input reads as it did. -/
def stageTwiceSpec : ChangeSpec := { name := "stageTwice", fn := fun _ => fun
  | [d1, d2] => { results := [.lit (.bool true)], args := [d1, d2] }
  | _ => none }
def stageTwiceRow : OpenClaim := { program := "ythccgmgmgcinnaadoor", sum := "2eaf64d114ae740207b5f66055be20ad64a10b74dfa8ad6b52811af2ef1f3cab", func := "thyrsus/thyrsuslaw10.StageTwice", spec := "stageTwice", unfollowed := true, recurses := true, named := ["thyrsus/term.binders"], apart := false, laid := [("thyrsus/term.binders", laid_thyrsus_term_binders)] }
def StageTwiceSaid : Prop := stageTwiceRow.holds Tryd.pinned (OpenSpec.ofChange stageTwiceSpec)

/-- ITS FALSE NEIGHBOUR: 'it returns false'. Refute it at one input. -/
def stageTwiceWrong : ChangeSpec := { name := "stageTwice", fn := fun _ => fun
  | [d1, d2] => { results := [.lit (.bool false)], args := [d1, d2] }
  | _ => none }
def StageTwiceWrongFalsely : Prop := stageTwiceRow.holds Tryd.pinned (OpenSpec.ofChange stageTwiceWrong)

/- THE SECOND FORM. 'bulk': how many values and letters a reading holds, each counted each time it is reached (what is shared counts as often as it is met; a slice's spare places count too). A statement '..UptoSaid' is the law's where the arguments, and the package variables that the reading takes, are together of bulk at most 1048576: NARROWER than '..Said'. Prove '..Said' where nothing that the law and all that it calls make is longer than what came in: it says more and counts as full. Else prove '..UptoSaid'. A law counts once. -/
mutual
def uptoBulk {H : Type} : DataW H → Nat
  | .lit (.string bytes) => bytes.length + 1
  | .lit _ => 1
  | .nil => 1
  | .ptr d => uptoBulk d + 1
  | .slice elems spare => uptoBulkAll elems + uptoBulkAll spare + 1
  | .agg parts => uptoBulkAll parts + 1
  | .iface _ d => uptoBulk d + 1
  | .map entries => uptoBulkEntries entries + 1
  | .held _ => 1
def uptoBulkAll {H : Type} : List (DataW H) → Nat
  | [] => 0
  | d :: r => uptoBulk d + uptoBulkAll r
def uptoBulkEntries {H : Type} : List (Lit × DataW H) → Nat
  | [] => 0
  | x :: r => uptoBulkEntry x + uptoBulkEntries r
def uptoBulkEntry {H : Type} : Lit × DataW H → Nat
  | (.string bytes, d) => bytes.length + uptoBulk d + 1
  | (_, d) => uptoBulk d + 1
 end
def uptoSmall : (H : Type) → List (DataW H) → Bool := fun _ ds => decide (uptoBulkAll ds ≤ 1048576)
def OpenSpec.upto (s : _root_.Go.ChangeSpec) : _root_.Go.OpenSpec := { _root_.Go.OpenSpec.ofChange s with cond := some uptoSmall }

/-- 'thyrsuslaw10.StagePower', WHERE WHAT IT READS IS OF BULK AT MOST 1048576: true; the input reads as it did. -/
def stagePowerUptoRow : OpenClaim := { program := "ythccgmgmgcinnaadoor", sum := "2eaf64d114ae740207b5f66055be20ad64a10b74dfa8ad6b52811af2ef1f3cab", func := "thyrsus/thyrsuslaw10.StagePower", spec := "stagePower", unfollowed := true, recurses := true, named := ["thyrsus/term.binders"], apart := false, laid := [("thyrsus/term.binders", laid_thyrsus_term_binders)], narrowed := true }
def StagePowerUptoSaid : Prop := stagePowerUptoRow.holds Tryd.pinned (OpenSpec.upto stagePowerSpec)

/-- 'thyrsuslaw10.StageKnown', WHERE WHAT IT READS IS OF BULK AT MOST 1048576: true; the input reads as it did. -/
def stageKnownUptoRow : OpenClaim := { program := "ythccgmgmgcinnaadoor", sum := "2eaf64d114ae740207b5f66055be20ad64a10b74dfa8ad6b52811af2ef1f3cab", func := "thyrsus/thyrsuslaw10.StageKnown", spec := "stageKnown", unfollowed := true, recurses := true, named := ["thyrsus/term.binders"], apart := false, laid := [("thyrsus/term.binders", laid_thyrsus_term_binders)], narrowed := true }
def StageKnownUptoSaid : Prop := stageKnownUptoRow.holds Tryd.pinned (OpenSpec.upto stageKnownSpec)

/-- 'thyrsuslaw10.StageTwice', WHERE WHAT IT READS IS OF BULK AT MOST 1048576: true; the input reads as it did. -/
def stageTwiceUptoRow : OpenClaim := { program := "ythccgmgmgcinnaadoor", sum := "2eaf64d114ae740207b5f66055be20ad64a10b74dfa8ad6b52811af2ef1f3cab", func := "thyrsus/thyrsuslaw10.StageTwice", spec := "stageTwice", unfollowed := true, recurses := true, named := ["thyrsus/term.binders"], apart := false, laid := [("thyrsus/term.binders", laid_thyrsus_term_binders)], narrowed := true }
def StageTwiceUptoSaid : Prop := stageTwiceUptoRow.holds Tryd.pinned (OpenSpec.upto stageTwiceSpec)

end Rows
end Go.Proofs.YthccgmgmgcinnaaDoor
