/-
  NARROWER THAN 'FOR EVERY INPUT', by the rows' own cells (each row's printed sentence says how): NormStuck: laid · NormKnown: laid · NormParts: loops, laid · NormShift: loops, laid · NormSubst: loops, laid.
  DERIVED. THE GIVEN ROWS OF THIS SEAT. 5 by the template 'for every input the law returns true; each argument reads behind the call as it read before'; 0 by the template 'total and deterministic' (their statements: YtjiecahopdaghabDoorTotals.lean).
  GIVEN WITH THE SEED: the statements are not yours to turn. If you find one false, say at which input.
  Laid BY PROGRAM, IN A SANDBOX (cutbox-rows.mjs): the forced cells as the released guide's own fill.sh prints them over the translation e4856ba39356ee63… (all of the seat's roots in one cut). By AI agents, Wed Nov 11 2026. No macro, syntax, notation, axiom, sorry.
-/
import Derived.Test.YtjiecahopdaghabDoorChecked
import GoSem.Claim
import GoSem.ClaimJoined
import GoSem.ClaimMapViews
import Derived.JoinedTies
import Derived.KernelRfl
namespace Go.Proofs.YtjiecahopdaghabDoor
/- THE CELL 'sum', in the pinned program and in every row, IS THE sha256 OF THE DUMP (.gsa) THAT YtjiecahopdaghabDoorProg.lean LOADS. Nothing in Lean hashes anything: it is a label: what it is worth is what the hold of that sum in a sandbox is worth. -/
noncomputable def Tryd.pinned : Pinned := { name := "ytjiecahopdaghabdoor", sum := "e4856ba39356ee63f57a4e5bb82407ff8d788db4c52c2b6a759d3b2458f7d16a", checked := Tryd.checked }
namespace Rows
def none {H : Type} : Left H := { results := [], args := [] }

/- WHAT THE LISTED PACKAGE-LEVEL VARIABLES READ AS WHEN THE CALL BEGINS. Each datum BY PROGRAM (the guide's laid-datum.mjs) off the statement by which the dump's own 'gosem.cut.vars' lays the variable. In a bare row this is a premise. The card (YtjiecahopdaghabDoorCards.lean) ties it to the program's text. -/
def laid_thyrsus_term_binders {H : Type} : DataW H := .agg [.agg [.lit (.int .i8 0), .lit (.int .i8 0), .lit (.int .i8 0), .lit (.int .i8 0)], .agg [.lit (.int .i8 0), .lit (.int .i8 0), .lit (.int .i8 0), .lit (.int .i8 0)], .agg [.lit (.int .i8 0), .lit (.int .i8 0), .lit (.int .i8 0), .lit (.int .i8 0)], .agg [.lit (.int .i8 0), .lit (.int .i8 1), .lit (.int .i8 0), .lit (.int .i8 0)], .agg [.lit (.int .i8 0), .lit (.int .i8 1), .lit (.int .i8 0), .lit (.int .i8 0)], .agg [.lit (.int .i8 0), .lit (.int .i8 0), .lit (.int .i8 0), .lit (.int .i8 0)], .agg [.lit (.int .i8 0), .lit (.int .i8 1), .lit (.int .i8 0), .lit (.int .i8 0)], .agg [.lit (.int .i8 0), .lit (.int .i8 0), .lit (.int .i8 0), .lit (.int .i8 0)], .agg [.lit (.int .i8 0), .lit (.int .i8 0), .lit (.int .i8 0), .lit (.int .i8 0)], .agg [.lit (.int .i8 0), .lit (.int .i8 0), .lit (.int .i8 0), .lit (.int .i8 0)], .agg [.lit (.int .i8 0), .lit (.int .i8 0), .lit (.int .i8 0), .lit (.int .i8 0)], .agg [.lit (.int .i8 0), .lit (.int .i8 0), .lit (.int .i8 0), .lit (.int .i8 0)], .agg [.lit (.int .i8 0), .lit (.int .i8 0), .lit (.int .i8 0), .lit (.int .i8 0)], .agg [.lit (.int .i8 1), .lit (.int .i8 0), .lit (.int .i8 2), .lit (.int .i8 0)], .agg [.lit (.int .i8 0), .lit (.int .i8 0), .lit (.int .i8 0), .lit (.int .i8 0)], .agg [.lit (.int .i8 0), .lit (.int .i8 0), .lit (.int .i8 0), .lit (.int .i8 0)], .agg [.lit (.int .i8 0), .lit (.int .i8 0), .lit (.int .i8 0), .lit (.int .i8 0)], .agg [.lit (.int .i8 0), .lit (.int .i8 0), .lit (.int .i8 0), .lit (.int .i8 0)], .agg [.lit (.int .i8 0), .lit (.int .i8 0), .lit (.int .i8 0), .lit (.int .i8 0)], .agg [.lit (.int .i8 0), .lit (.int .i8 0), .lit (.int .i8 0), .lit (.int .i8 0)], .agg [.lit (.int .i8 0), .lit (.int .i8 1), .lit (.int .i8 0), .lit (.int .i8 0)], .agg [.lit (.int .i8 0), .lit (.int .i8 0), .lit (.int .i8 0), .lit (.int .i8 0)], .agg [.lit (.int .i8 0), .lit (.int .i8 0), .lit (.int .i8 0), .lit (.int .i8 0)], .agg [.lit (.int .i8 0), .lit (.int .i8 0), .lit (.int .i8 0), .lit (.int .i8 0)], .agg [.lit (.int .i8 0), .lit (.int .i8 0), .lit (.int .i8 0), .lit (.int .i8 0)], .agg [.lit (.int .i8 0), .lit (.int .i8 0), .lit (.int .i8 0), .lit (.int .i8 0)], .agg [.lit (.int .i8 0), .lit (.int .i8 0), .lit (.int .i8 0), .lit (.int .i8 0)], .agg [.lit (.int .i8 0), .lit (.int .i8 0), .lit (.int .i8 0), .lit (.int .i8 0)], .agg [.lit (.int .i8 0), .lit (.int .i8 1), .lit (.int .i8 0), .lit (.int .i8 0)], .agg [.lit (.int .i8 0), .lit (.int .i8 1), .lit (.int .i8 0), .lit (.int .i8 0)], .agg [.lit (.int .i8 0), .lit (.int .i8 0), .lit (.int .i8 0), .lit (.int .i8 0)]]

/-- 'thyrsuslaw5.NormStuck': WHATEVER THE INPUT: true; the input reads as it did. -/
def normStuckSpec : ChangeSpec := { name := "normStuck", fn := fun _ => fun
  | [d1, d2, d3] => { results := [.lit (.bool true)], args := [d1, d2, d3] }
  | _ => none }
def normStuckRow : OpenClaim := { program := "ytjiecahopdaghabdoor", sum := "e4856ba39356ee63f57a4e5bb82407ff8d788db4c52c2b6a759d3b2458f7d16a", func := "thyrsus/thyrsuslaw5.NormStuck", spec := "normStuck", unfollowed := true, recurses := true, named := ["thyrsus/term.binders"], apart := false, laid := [("thyrsus/term.binders", laid_thyrsus_term_binders)] }
def NormStuckSaid : Prop := normStuckRow.holds Tryd.pinned (OpenSpec.ofChange normStuckSpec)

/-- ITS FALSE NEIGHBOUR: 'it returns false'. Refute it at one input. -/
def normStuckWrong : ChangeSpec := { name := "normStuck", fn := fun _ => fun
  | [d1, d2, d3] => { results := [.lit (.bool false)], args := [d1, d2, d3] }
  | _ => none }
def NormStuckWrongFalsely : Prop := normStuckRow.holds Tryd.pinned (OpenSpec.ofChange normStuckWrong)

/-- 'thyrsuslaw5.NormKnown': WHATEVER THE INPUT: true; the input reads as it did. -/
def normKnownSpec : ChangeSpec := { name := "normKnown", fn := fun _ => fun
  | [d] => { results := [.lit (.bool true)], args := [d] }
  | _ => none }
def normKnownRow : OpenClaim := { program := "ytjiecahopdaghabdoor", sum := "e4856ba39356ee63f57a4e5bb82407ff8d788db4c52c2b6a759d3b2458f7d16a", func := "thyrsus/thyrsuslaw5.NormKnown", spec := "normKnown", unfollowed := true, recurses := true, named := ["thyrsus/term.binders"], apart := false, laid := [("thyrsus/term.binders", laid_thyrsus_term_binders)] }
def NormKnownSaid : Prop := normKnownRow.holds Tryd.pinned (OpenSpec.ofChange normKnownSpec)

/-- ITS FALSE NEIGHBOUR: 'it returns false'. Refute it at one input. -/
def normKnownWrong : ChangeSpec := { name := "normKnown", fn := fun _ => fun
  | [d] => { results := [.lit (.bool false)], args := [d] }
  | _ => none }
def NormKnownWrongFalsely : Prop := normKnownRow.holds Tryd.pinned (OpenSpec.ofChange normKnownWrong)

/-- 'thyrsuslaw5.NormParts': WHATEVER THE INPUT: true; the input reads as it did. -/
def normPartsSpec : ChangeSpec := { name := "normParts", fn := fun _ => fun
  | [d1, d2, d3, d4] => { results := [.lit (.bool true)], args := [d1, d2, d3, d4] }
  | _ => none }
def normPartsRow : OpenClaim := { program := "ytjiecahopdaghabdoor", sum := "e4856ba39356ee63f57a4e5bb82407ff8d788db4c52c2b6a759d3b2458f7d16a", func := "thyrsus/thyrsuslaw5.NormParts", spec := "normParts", unfollowed := true, recurses := true, named := ["thyrsus/term.binders"], loops := true, apart := false, laid := [("thyrsus/term.binders", laid_thyrsus_term_binders)] }
def NormPartsSaid : Prop := normPartsRow.holds Tryd.pinned (OpenSpec.ofChange normPartsSpec)

/-- ITS FALSE NEIGHBOUR: 'it returns false'. Refute it at one input. -/
def normPartsWrong : ChangeSpec := { name := "normParts", fn := fun _ => fun
  | [d1, d2, d3, d4] => { results := [.lit (.bool false)], args := [d1, d2, d3, d4] }
  | _ => none }
def NormPartsWrongFalsely : Prop := normPartsRow.holds Tryd.pinned (OpenSpec.ofChange normPartsWrong)

/-- 'thyrsuslaw5.NormShift': WHATEVER THE INPUT: true; the input reads as it did. -/
def normShiftSpec : ChangeSpec := { name := "normShift", fn := fun _ => fun
  | [d1, d2, d3, d4, d5] => { results := [.lit (.bool true)], args := [d1, d2, d3, d4, d5] }
  | _ => none }
def normShiftRow : OpenClaim := { program := "ytjiecahopdaghabdoor", sum := "e4856ba39356ee63f57a4e5bb82407ff8d788db4c52c2b6a759d3b2458f7d16a", func := "thyrsus/thyrsuslaw5.NormShift", spec := "normShift", unfollowed := true, recurses := true, named := ["thyrsus/term.binders"], loops := true, apart := false, laid := [("thyrsus/term.binders", laid_thyrsus_term_binders)] }
def NormShiftSaid : Prop := normShiftRow.holds Tryd.pinned (OpenSpec.ofChange normShiftSpec)

/-- ITS FALSE NEIGHBOUR: 'it returns false'. Refute it at one input. -/
def normShiftWrong : ChangeSpec := { name := "normShift", fn := fun _ => fun
  | [d1, d2, d3, d4, d5] => { results := [.lit (.bool false)], args := [d1, d2, d3, d4, d5] }
  | _ => none }
def NormShiftWrongFalsely : Prop := normShiftRow.holds Tryd.pinned (OpenSpec.ofChange normShiftWrong)

/-- 'thyrsuslaw5.NormSubst': WHATEVER THE INPUT: true; the input reads as it did. -/
def normSubstSpec : ChangeSpec := { name := "normSubst", fn := fun _ => fun
  | [d1, d2, d3, d4] => { results := [.lit (.bool true)], args := [d1, d2, d3, d4] }
  | _ => none }
def normSubstRow : OpenClaim := { program := "ytjiecahopdaghabdoor", sum := "e4856ba39356ee63f57a4e5bb82407ff8d788db4c52c2b6a759d3b2458f7d16a", func := "thyrsus/thyrsuslaw5.NormSubst", spec := "normSubst", unfollowed := true, recurses := true, named := ["thyrsus/term.binders"], loops := true, apart := false, laid := [("thyrsus/term.binders", laid_thyrsus_term_binders)] }
def NormSubstSaid : Prop := normSubstRow.holds Tryd.pinned (OpenSpec.ofChange normSubstSpec)

/-- ITS FALSE NEIGHBOUR: 'it returns false'. Refute it at one input. -/
def normSubstWrong : ChangeSpec := { name := "normSubst", fn := fun _ => fun
  | [d1, d2, d3, d4] => { results := [.lit (.bool false)], args := [d1, d2, d3, d4] }
  | _ => none }
def NormSubstWrongFalsely : Prop := normSubstRow.holds Tryd.pinned (OpenSpec.ofChange normSubstWrong)

/- THE SECOND FORM. 'bulk': how many values and letters a reading holds, each counted each time it is reached (what is shared counts as often as it is met; a slice's spare places count too). A statement '..UptoSaid' is the law's where the arguments, and the package variables that the reading takes, are together of bulk at most 1048576: NARROWER than '..Said'. Prove '..Said' where nothing that the law and all that it calls make is longer than what came in: it says more and counts as full. Else prove '..UptoSaid'. A law counts once. -/
mutual
def uptoBulk {H : Type} : DataW H → Nat
  | .lit (.string bytes) => bytes.length + 1
  | .lit _ => 1
  | .nil => 1
  | .ptr d => uptoBulk d + 1
  | .slice elems spare => uptoBulkAll elems + uptoBulkAll spare + 1
  | .agg parts => uptoBulkAll parts + 1
  | .iface _ d => uptoBulk d + 1
  | .map entries => uptoBulkEntries entries + 1
  | .held _ => 1
def uptoBulkAll {H : Type} : List (DataW H) → Nat
  | [] => 0
  | d :: r => uptoBulk d + uptoBulkAll r
def uptoBulkEntries {H : Type} : List (Lit × DataW H) → Nat
  | [] => 0
  | x :: r => uptoBulkEntry x + uptoBulkEntries r
def uptoBulkEntry {H : Type} : Lit × DataW H → Nat
  | (.string bytes, d) => bytes.length + uptoBulk d + 1
  | (_, d) => uptoBulk d + 1
 end
def uptoSmall : (H : Type) → List (DataW H) → Bool := fun _ ds => decide (uptoBulkAll ds ≤ 1048576)
def OpenSpec.upto (s : _root_.Go.ChangeSpec) : _root_.Go.OpenSpec := { _root_.Go.OpenSpec.ofChange s with cond := some uptoSmall }

/-- 'thyrsuslaw5.NormStuck', WHERE WHAT IT READS IS OF BULK AT MOST 1048576: true; the input reads as it did. -/
def normStuckUptoRow : OpenClaim := { program := "ytjiecahopdaghabdoor", sum := "e4856ba39356ee63f57a4e5bb82407ff8d788db4c52c2b6a759d3b2458f7d16a", func := "thyrsus/thyrsuslaw5.NormStuck", spec := "normStuck", unfollowed := true, recurses := true, named := ["thyrsus/term.binders"], apart := false, laid := [("thyrsus/term.binders", laid_thyrsus_term_binders)], narrowed := true }
def NormStuckUptoSaid : Prop := normStuckUptoRow.holds Tryd.pinned (OpenSpec.upto normStuckSpec)

/-- 'thyrsuslaw5.NormKnown', WHERE WHAT IT READS IS OF BULK AT MOST 1048576: true; the input reads as it did. -/
def normKnownUptoRow : OpenClaim := { program := "ytjiecahopdaghabdoor", sum := "e4856ba39356ee63f57a4e5bb82407ff8d788db4c52c2b6a759d3b2458f7d16a", func := "thyrsus/thyrsuslaw5.NormKnown", spec := "normKnown", unfollowed := true, recurses := true, named := ["thyrsus/term.binders"], apart := false, laid := [("thyrsus/term.binders", laid_thyrsus_term_binders)], narrowed := true }
def NormKnownUptoSaid : Prop := normKnownUptoRow.holds Tryd.pinned (OpenSpec.upto normKnownSpec)

/-- 'thyrsuslaw5.NormParts', WHERE WHAT IT READS IS OF BULK AT MOST 1048576: true; the input reads as it did. -/
def normPartsUptoRow : OpenClaim := { program := "ytjiecahopdaghabdoor", sum := "e4856ba39356ee63f57a4e5bb82407ff8d788db4c52c2b6a759d3b2458f7d16a", func := "thyrsus/thyrsuslaw5.NormParts", spec := "normParts", unfollowed := true, recurses := true, named := ["thyrsus/term.binders"], loops := true, apart := false, laid := [("thyrsus/term.binders", laid_thyrsus_term_binders)], narrowed := true }
def NormPartsUptoSaid : Prop := normPartsUptoRow.holds Tryd.pinned (OpenSpec.upto normPartsSpec)

/-- 'thyrsuslaw5.NormShift', WHERE WHAT IT READS IS OF BULK AT MOST 1048576: true; the input reads as it did. -/
def normShiftUptoRow : OpenClaim := { program := "ytjiecahopdaghabdoor", sum := "e4856ba39356ee63f57a4e5bb82407ff8d788db4c52c2b6a759d3b2458f7d16a", func := "thyrsus/thyrsuslaw5.NormShift", spec := "normShift", unfollowed := true, recurses := true, named := ["thyrsus/term.binders"], loops := true, apart := false, laid := [("thyrsus/term.binders", laid_thyrsus_term_binders)], narrowed := true }
def NormShiftUptoSaid : Prop := normShiftUptoRow.holds Tryd.pinned (OpenSpec.upto normShiftSpec)

/-- 'thyrsuslaw5.NormSubst', WHERE WHAT IT READS IS OF BULK AT MOST 1048576: true; the input reads as it did. -/
def normSubstUptoRow : OpenClaim := { program := "ytjiecahopdaghabdoor", sum := "e4856ba39356ee63f57a4e5bb82407ff8d788db4c52c2b6a759d3b2458f7d16a", func := "thyrsus/thyrsuslaw5.NormSubst", spec := "normSubst", unfollowed := true, recurses := true, named := ["thyrsus/term.binders"], loops := true, apart := false, laid := [("thyrsus/term.binders", laid_thyrsus_term_binders)], narrowed := true }
def NormSubstUptoSaid : Prop := normSubstUptoRow.holds Tryd.pinned (OpenSpec.upto normSubstSpec)

end Rows
end Go.Proofs.YtjiecahopdaghabDoor
