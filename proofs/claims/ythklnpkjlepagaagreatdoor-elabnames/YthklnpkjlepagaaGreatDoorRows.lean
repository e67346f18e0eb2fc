/-
  NARROWER THAN 'FOR EVERY INPUT', by the rows' own cells (each row's printed sentence says how): ElabKnown: laid · ElabForms: laid · ElabBinders: laid · ElabShapes: laid · ElabNames: laid · ElabInserts: loops, laid.
  DERIVED. THE GIVEN ROWS OF THIS SEAT. 6 by the template 'for every input the law returns true; each argument reads behind the call as it read before'; 0 by the template 'total and deterministic' (their statements: YthklnpkjlepagaaGreatDoorTotals.lean).
  GIVEN WITH THE SEED: the statements are not yours to turn. If you find one false, say at which input.
  Laid BY PROGRAM, IN A SANDBOX (cutbox-rows.mjs): the forced cells as the released guide's own fill.sh prints them over the translation 640e30101b2fd1ec… (all of the seat's roots in one cut). By AI agents, Wed Nov 11 2026. No macro, syntax, notation, axiom, sorry.
-/
import Derived.Test.YthklnpkjlepagaaGreatDoorChecked
import GoSem.Claim
import GoSem.ClaimJoined
import GoSem.ClaimMapViews
import Derived.JoinedTies
import Derived.KernelRfl
namespace Go.Proofs.YthklnpkjlepagaaGreatDoor
/- THE CELL 'sum', in the pinned program and in every row, IS THE sha256 OF THE DUMP (.gsa) THAT YthklnpkjlepagaaGreatDoorProg.lean LOADS. Nothing in Lean hashes anything: it is a label: what it is worth is what the hold of that sum in a sandbox is worth. -/
noncomputable def Tryz.pinned : Pinned := { name := "ythklnpkjlepagaagreatdoor", sum := "640e30101b2fd1ecc98fe08f8a023323c2d046a8b2265544390305dad3faf109", checked := Tryz.checked }
namespace Rows
def none {H : Type} : Left H := { results := [], args := [] }

/- WHAT THE LISTED PACKAGE-LEVEL VARIABLES READ AS WHEN THE CALL BEGINS. Each datum BY PROGRAM (the guide's laid-datum.mjs) off the statement by which the dump's own 'gosem.cut.vars' lays the variable. In a bare row this is a premise. The card (YthklnpkjlepagaaGreatDoorCards.lean) ties it to the program's text. -/
def laid_math_bits_deBruijn32tab {H : Type} : DataW H := .agg [.lit (.int .u8 0), .lit (.int .u8 1), .lit (.int .u8 28), .lit (.int .u8 2), .lit (.int .u8 29), .lit (.int .u8 14), .lit (.int .u8 24), .lit (.int .u8 3), .lit (.int .u8 30), .lit (.int .u8 22), .lit (.int .u8 20), .lit (.int .u8 15), .lit (.int .u8 25), .lit (.int .u8 17), .lit (.int .u8 4), .lit (.int .u8 8), .lit (.int .u8 31), .lit (.int .u8 27), .lit (.int .u8 13), .lit (.int .u8 23), .lit (.int .u8 21), .lit (.int .u8 19), .lit (.int .u8 16), .lit (.int .u8 7), .lit (.int .u8 26), .lit (.int .u8 12), .lit (.int .u8 18), .lit (.int .u8 6), .lit (.int .u8 11), .lit (.int .u8 5), .lit (.int .u8 10), .lit (.int .u8 9)]
def laid_math_bits_deBruijn64tab {H : Type} : DataW H := .agg [.lit (.int .u8 0), .lit (.int .u8 1), .lit (.int .u8 56), .lit (.int .u8 2), .lit (.int .u8 57), .lit (.int .u8 49), .lit (.int .u8 28), .lit (.int .u8 3), .lit (.int .u8 61), .lit (.int .u8 58), .lit (.int .u8 42), .lit (.int .u8 50), .lit (.int .u8 38), .lit (.int .u8 29), .lit (.int .u8 17), .lit (.int .u8 4), .lit (.int .u8 62), .lit (.int .u8 47), .lit (.int .u8 59), .lit (.int .u8 36), .lit (.int .u8 45), .lit (.int .u8 43), .lit (.int .u8 51), .lit (.int .u8 22), .lit (.int .u8 53), .lit (.int .u8 39), .lit (.int .u8 33), .lit (.int .u8 30), .lit (.int .u8 24), .lit (.int .u8 18), .lit (.int .u8 12), .lit (.int .u8 5), .lit (.int .u8 63), .lit (.int .u8 55), .lit (.int .u8 48), .lit (.int .u8 27), .lit (.int .u8 60), .lit (.int .u8 41), .lit (.int .u8 37), .lit (.int .u8 16), .lit (.int .u8 46), .lit (.int .u8 35), .lit (.int .u8 44), .lit (.int .u8 21), .lit (.int .u8 52), .lit (.int .u8 32), .lit (.int .u8 23), .lit (.int .u8 11), .lit (.int .u8 54), .lit (.int .u8 26), .lit (.int .u8 40), .lit (.int .u8 15), .lit (.int .u8 34), .lit (.int .u8 20), .lit (.int .u8 31), .lit (.int .u8 10), .lit (.int .u8 25), .lit (.int .u8 14), .lit (.int .u8 19), .lit (.int .u8 9), .lit (.int .u8 13), .lit (.int .u8 8), .lit (.int .u8 7), .lit (.int .u8 6)]
def laid_internal_strconv_uint64pow10 {H : Type} : DataW H := .agg [.lit (.int .u64 1), .lit (.int .u64 10), .lit (.int .u64 100), .lit (.int .u64 1000), .lit (.int .u64 10000), .lit (.int .u64 100000), .lit (.int .u64 1000000), .lit (.int .u64 10000000), .lit (.int .u64 100000000), .lit (.int .u64 1000000000), .lit (.int .u64 10000000000), .lit (.int .u64 100000000000), .lit (.int .u64 1000000000000), .lit (.int .u64 10000000000000), .lit (.int .u64 100000000000000), .lit (.int .u64 1000000000000000), .lit (.int .u64 10000000000000000), .lit (.int .u64 100000000000000000), .lit (.int .u64 1000000000000000000), .lit (.int .u64 10000000000000000000)]
def laid_strconv_ErrRange {H : Type} : DataW H := .iface "*errors.errorString" (.ptr (.agg [.lit (.string [118, 97, 108, 117, 101, 32, 111, 117, 116, 32, 111, 102, 32, 114, 97, 110, 103, 101])]))
def laid_strconv_ErrSyntax {H : Type} : DataW H := .iface "*errors.errorString" (.ptr (.agg [.lit (.string [105, 110, 118, 97, 108, 105, 100, 32, 115, 121, 110, 116, 97, 120])]))
def laid_thyrsus_term_kids {H : Type} : DataW H := .agg [.lit (.int .i8 0), .lit (.int .i8 0), .lit (.int .i8 0), .lit (.int .i8 2), .lit (.int .i8 2), .lit (.int .i8 2), .lit (.int .i8 2), .lit (.int .i8 3), .lit (.int .i8 1), .lit (.int .i8 1), .lit (.int .i8 0), .lit (.int .i8 0), .lit (.int .i8 1), .lit (.int .i8 4), .lit (.int .i8 0), .lit (.int .i8 0), .lit (.int .i8 2), .lit (.int .i8 2), .lit (.int .i8 1), .lit (.int .i8 1), .lit (.int .i8 2), .lit (.int .i8 2), .lit (.int .i8 2), .lit (.int .i8 1), .lit (.int .i8 1), .lit (.int .i8 0), .lit (.int .i8 2), .lit (.int .i8 3), .lit (.int .i8 2), .lit (.int .i8 2), .lit (.int .i8 1)]
def laid_thyrsus_term_binders {H : Type} : DataW H := .agg [.agg [.lit (.int .i8 0), .lit (.int .i8 0), .lit (.int .i8 0), .lit (.int .i8 0)], .agg [.lit (.int .i8 0), .lit (.int .i8 0), .lit (.int .i8 0), .lit (.int .i8 0)], .agg [.lit (.int .i8 0), .lit (.int .i8 0), .lit (.int .i8 0), .lit (.int .i8 0)], .agg [.lit (.int .i8 0), .lit (.int .i8 1), .lit (.int .i8 0), .lit (.int .i8 0)], .agg [.lit (.int .i8 0), .lit (.int .i8 1), .lit (.int .i8 0), .lit (.int .i8 0)], .agg [.lit (.int .i8 0), .lit (.int .i8 0), .lit (.int .i8 0), .lit (.int .i8 0)], .agg [.lit (.int .i8 0), .lit (.int .i8 1), .lit (.int .i8 0), .lit (.int .i8 0)], .agg [.lit (.int .i8 0), .lit (.int .i8 0), .lit (.int .i8 0), .lit (.int .i8 0)], .agg [.lit (.int .i8 0), .lit (.int .i8 0), .lit (.int .i8 0), .lit (.int .i8 0)], .agg [.lit (.int .i8 0), .lit (.int .i8 0), .lit (.int .i8 0), .lit (.int .i8 0)], .agg [.lit (.int .i8 0), .lit (.int .i8 0), .lit (.int .i8 0), .lit (.int .i8 0)], .agg [.lit (.int .i8 0), .lit (.int .i8 0), .lit (.int .i8 0), .lit (.int .i8 0)], .agg [.lit (.int .i8 0), .lit (.int .i8 0), .lit (.int .i8 0), .lit (.int .i8 0)], .agg [.lit (.int .i8 1), .lit (.int .i8 0), .lit (.int .i8 2), .lit (.int .i8 0)], .agg [.lit (.int .i8 0), .lit (.int .i8 0), .lit (.int .i8 0), .lit (.int .i8 0)], .agg [.lit (.int .i8 0), .lit (.int .i8 0), .lit (.int .i8 0), .lit (.int .i8 0)], .agg [.lit (.int .i8 0), .lit (.int .i8 0), .lit (.int .i8 0), .lit (.int .i8 0)], .agg [.lit (.int .i8 0), .lit (.int .i8 0), .lit (.int .i8 0), .lit (.int .i8 0)], .agg [.lit (.int .i8 0), .lit (.int .i8 0), .lit (.int .i8 0), .lit (.int .i8 0)], .agg [.lit (.int .i8 0), .lit (.int .i8 0), .lit (.int .i8 0), .lit (.int .i8 0)], .agg [.lit (.int .i8 0), .lit (.int .i8 1), .lit (.int .i8 0), .lit (.int .i8 0)], .agg [.lit (.int .i8 0), .lit (.int .i8 0), .lit (.int .i8 0), .lit (.int .i8 0)], .agg [.lit (.int .i8 0), .lit (.int .i8 0), .lit (.int .i8 0), .lit (.int .i8 0)], .agg [.lit (.int .i8 0), .lit (.int .i8 0), .lit (.int .i8 0), .lit (.int .i8 0)], .agg [.lit (.int .i8 0), .lit (.int .i8 0), .lit (.int .i8 0), .lit (.int .i8 0)], .agg [.lit (.int .i8 0), .lit (.int .i8 0), .lit (.int .i8 0), .lit (.int .i8 0)], .agg [.lit (.int .i8 0), .lit (.int .i8 0), .lit (.int .i8 0), .lit (.int .i8 0)], .agg [.lit (.int .i8 0), .lit (.int .i8 0), .lit (.int .i8 0), .lit (.int .i8 0)], .agg [.lit (.int .i8 0), .lit (.int .i8 1), .lit (.int .i8 0), .lit (.int .i8 0)], .agg [.lit (.int .i8 0), .lit (.int .i8 1), .lit (.int .i8 0), .lit (.int .i8 0)], .agg [.lit (.int .i8 0), .lit (.int .i8 0), .lit (.int .i8 0), .lit (.int .i8 0)]]
def laid_thyrsus_term_numbers {H : Type} : DataW H := .agg [.agg [.lit (.int .i64 0), .lit (.int .i64 0)], .agg [.lit (.int .i64 0), .lit (.int .i64 3000)], .agg [.lit (.int .i64 0), .lit (.int .i64 2)], .agg [.lit (.int .i64 0), .lit (.int .i64 0)], .agg [.lit (.int .i64 0), .lit (.int .i64 0)], .agg [.lit (.int .i64 0), .lit (.int .i64 0)], .agg [.lit (.int .i64 0), .lit (.int .i64 0)], .agg [.lit (.int .i64 0), .lit (.int .i64 0)], .agg [.lit (.int .i64 0), .lit (.int .i64 0)], .agg [.lit (.int .i64 0), .lit (.int .i64 0)], .agg [.lit (.int .i64 0), .lit (.int .i64 0)], .agg [.lit (.int .i64 0), .lit (.int .i64 0)], .agg [.lit (.int .i64 0), .lit (.int .i64 0)], .agg [.lit (.int .i64 0), .lit (.int .i64 0)], .agg [.lit (.int .i64 0), .lit (.int .i64 0)], .agg [.lit (.int .i64 0), .lit (.int .i64 0)], .agg [.lit (.int .i64 0), .lit (.int .i64 0)], .agg [.lit (.int .i64 0), .lit (.int .i64 0)], .agg [.lit (.int .i64 0), .lit (.int .i64 0)], .agg [.lit (.int .i64 0), .lit (.int .i64 0)], .agg [.lit (.int .i64 0), .lit (.int .i64 0)], .agg [.lit (.int .i64 0), .lit (.int .i64 0)], .agg [.lit (.int .i64 0), .lit (.int .i64 0)], .agg [.lit (.int .i64 0), .lit (.int .i64 0)], .agg [.lit (.int .i64 0), .lit (.int .i64 0)], .agg [.lit (.int .i64 (-9223372036854775808)), .lit (.int .i64 9223372036854775807)], .agg [.lit (.int .i64 0), .lit (.int .i64 4)], .agg [.lit (.int .i64 0), .lit (.int .i64 0)], .agg [.lit (.int .i64 0), .lit (.int .i64 0)], .agg [.lit (.int .i64 0), .lit (.int .i64 0)], .agg [.lit (.int .i64 0), .lit (.int .i64 0)]]

/-- 'thyrsuslaw8.ElabKnown': WHATEVER THE INPUT: true; the input reads as it did. -/
def elabKnownSpec : ChangeSpec := { name := "elabKnown", fn := fun _ => fun
  | [d] => { results := [.lit (.bool true)], args := [d] }
  | _ => none }
def elabKnownRow : OpenClaim := { program := "ythklnpkjlepagaagreatdoor", sum := "640e30101b2fd1ecc98fe08f8a023323c2d046a8b2265544390305dad3faf109", func := "thyrsus/thyrsuslaw8.ElabKnown", spec := "elabKnown", unfollowed := true, recurses := true, named := ["thyrsus/term.binders", "strconv.ErrSyntax", "strconv.ErrRange", "internal/strconv.uint64pow10", "math/bits.deBruijn32tab", "math/bits.deBruijn64tab", "thyrsus/term.kids", "thyrsus/term.numbers"], apart := false, laid := [("math/bits.deBruijn32tab", laid_math_bits_deBruijn32tab), ("math/bits.deBruijn64tab", laid_math_bits_deBruijn64tab), ("internal/strconv.uint64pow10", laid_internal_strconv_uint64pow10), ("strconv.ErrRange", laid_strconv_ErrRange), ("strconv.ErrSyntax", laid_strconv_ErrSyntax), ("thyrsus/term.kids", laid_thyrsus_term_kids), ("thyrsus/term.binders", laid_thyrsus_term_binders), ("thyrsus/term.numbers", laid_thyrsus_term_numbers)] }
def ElabKnownSaid : Prop := elabKnownRow.holds Tryz.pinned (OpenSpec.ofChange elabKnownSpec)

/-- ITS FALSE NEIGHBOUR: 'it returns false'. Refute it at one input. -/
def elabKnownWrong : ChangeSpec := { name := "elabKnown", fn := fun _ => fun
  | [d] => { results := [.lit (.bool false)], args := [d] }
  | _ => none }
def ElabKnownWrongFalsely : Prop := elabKnownRow.holds Tryz.pinned (OpenSpec.ofChange elabKnownWrong)

/-- 'thyrsuslaw8.ElabForms': WHATEVER THE INPUT: true; the input reads as it did. -/
def elabFormsSpec : ChangeSpec := { name := "elabForms", fn := fun _ => fun
  | [d] => { results := [.lit (.bool true)], args := [d] }
  | _ => none }
def elabFormsRow : OpenClaim := { program := "ythklnpkjlepagaagreatdoor", sum := "640e30101b2fd1ecc98fe08f8a023323c2d046a8b2265544390305dad3faf109", func := "thyrsus/thyrsuslaw8.ElabForms", spec := "elabForms", unfollowed := true, recurses := true, named := ["thyrsus/term.binders", "strconv.ErrSyntax", "strconv.ErrRange", "internal/strconv.uint64pow10", "math/bits.deBruijn32tab", "math/bits.deBruijn64tab", "thyrsus/term.kids", "thyrsus/term.numbers"], apart := false, laid := [("math/bits.deBruijn32tab", laid_math_bits_deBruijn32tab), ("math/bits.deBruijn64tab", laid_math_bits_deBruijn64tab), ("internal/strconv.uint64pow10", laid_internal_strconv_uint64pow10), ("strconv.ErrRange", laid_strconv_ErrRange), ("strconv.ErrSyntax", laid_strconv_ErrSyntax), ("thyrsus/term.kids", laid_thyrsus_term_kids), ("thyrsus/term.binders", laid_thyrsus_term_binders), ("thyrsus/term.numbers", laid_thyrsus_term_numbers)] }
def ElabFormsSaid : Prop := elabFormsRow.holds Tryz.pinned (OpenSpec.ofChange elabFormsSpec)

/-- ITS FALSE NEIGHBOUR: 'it returns false'. Refute it at one input. -/
def elabFormsWrong : ChangeSpec := { name := "elabForms", fn := fun _ => fun
  | [d] => { results := [.lit (.bool false)], args := [d] }
  | _ => none }
def ElabFormsWrongFalsely : Prop := elabFormsRow.holds Tryz.pinned (OpenSpec.ofChange elabFormsWrong)

/-- 'thyrsuslaw8.ElabBinders': WHATEVER THE INPUT: true; the input reads as it did. -/
def elabBindersSpec : ChangeSpec := { name := "elabBinders", fn := fun _ => fun
  | [d] => { results := [.lit (.bool true)], args := [d] }
  | _ => none }
def elabBindersRow : OpenClaim := { program := "ythklnpkjlepagaagreatdoor", sum := "640e30101b2fd1ecc98fe08f8a023323c2d046a8b2265544390305dad3faf109", func := "thyrsus/thyrsuslaw8.ElabBinders", spec := "elabBinders", unfollowed := true, recurses := true, named := ["thyrsus/term.binders", "strconv.ErrSyntax", "strconv.ErrRange", "internal/strconv.uint64pow10", "math/bits.deBruijn32tab", "math/bits.deBruijn64tab", "thyrsus/term.kids", "thyrsus/term.numbers"], apart := false, laid := [("math/bits.deBruijn32tab", laid_math_bits_deBruijn32tab), ("math/bits.deBruijn64tab", laid_math_bits_deBruijn64tab), ("internal/strconv.uint64pow10", laid_internal_strconv_uint64pow10), ("strconv.ErrRange", laid_strconv_ErrRange), ("strconv.ErrSyntax", laid_strconv_ErrSyntax), ("thyrsus/term.kids", laid_thyrsus_term_kids), ("thyrsus/term.binders", laid_thyrsus_term_binders), ("thyrsus/term.numbers", laid_thyrsus_term_numbers)] }
def ElabBindersSaid : Prop := elabBindersRow.holds Tryz.pinned (OpenSpec.ofChange elabBindersSpec)

/-- ITS FALSE NEIGHBOUR: 'it returns false'. Refute it at one input. -/
def elabBindersWrong : ChangeSpec := { name := "elabBinders", fn := fun _ => fun
  | [d] => { results := [.lit (.bool false)], args := [d] }
  | _ => none }
def ElabBindersWrongFalsely : Prop := elabBindersRow.holds Tryz.pinned (OpenSpec.ofChange elabBindersWrong)

/-- 'thyrsuslaw8.ElabShapes': WHATEVER THE INPUT: true; the input reads as it did. -/
def elabShapesSpec : ChangeSpec := { name := "elabShapes", fn := fun _ => fun
  | [d1, d2] => { results := [.lit (.bool true)], args := [d1, d2] }
  | _ => none }
def elabShapesRow : OpenClaim := { program := "ythklnpkjlepagaagreatdoor", sum := "640e30101b2fd1ecc98fe08f8a023323c2d046a8b2265544390305dad3faf109", func := "thyrsus/thyrsuslaw8.ElabShapes", spec := "elabShapes", unfollowed := true, recurses := true, named := ["thyrsus/term.binders", "strconv.ErrSyntax", "strconv.ErrRange", "internal/strconv.uint64pow10", "math/bits.deBruijn32tab", "math/bits.deBruijn64tab", "thyrsus/term.kids", "thyrsus/term.numbers"], apart := false, laid := [("math/bits.deBruijn32tab", laid_math_bits_deBruijn32tab), ("math/bits.deBruijn64tab", laid_math_bits_deBruijn64tab), ("internal/strconv.uint64pow10", laid_internal_strconv_uint64pow10), ("strconv.ErrRange", laid_strconv_ErrRange), ("strconv.ErrSyntax", laid_strconv_ErrSyntax), ("thyrsus/term.kids", laid_thyrsus_term_kids), ("thyrsus/term.binders", laid_thyrsus_term_binders), ("thyrsus/term.numbers", laid_thyrsus_term_numbers)] }
def ElabShapesSaid : Prop := elabShapesRow.holds Tryz.pinned (OpenSpec.ofChange elabShapesSpec)

/-- ITS FALSE NEIGHBOUR: 'it returns false'. Refute it at one input. -/
def elabShapesWrong : ChangeSpec := { name := "elabShapes", fn := fun _ => fun
  | [d1, d2] => { results := [.lit (.bool false)], args := [d1, d2] }
  | _ => none }
def ElabShapesWrongFalsely : Prop := elabShapesRow.holds Tryz.pinned (OpenSpec.ofChange elabShapesWrong)

/-- 'thyrsuslaw8.ElabNames': WHATEVER THE INPUT: true; the input reads as it did. -/
def elabNamesSpec : ChangeSpec := { name := "elabNames", fn := fun _ => fun
  | [d1, d2] => { results := [.lit (.bool true)], args := [d1, d2] }
  | _ => none }
def elabNamesRow : OpenClaim := { program := "ythklnpkjlepagaagreatdoor", sum := "640e30101b2fd1ecc98fe08f8a023323c2d046a8b2265544390305dad3faf109", func := "thyrsus/thyrsuslaw8.ElabNames", spec := "elabNames", unfollowed := true, recurses := true, named := ["thyrsus/term.binders", "strconv.ErrSyntax", "strconv.ErrRange", "internal/strconv.uint64pow10", "math/bits.deBruijn32tab", "math/bits.deBruijn64tab", "thyrsus/term.kids", "thyrsus/term.numbers"], apart := false, laid := [("math/bits.deBruijn32tab", laid_math_bits_deBruijn32tab), ("math/bits.deBruijn64tab", laid_math_bits_deBruijn64tab), ("internal/strconv.uint64pow10", laid_internal_strconv_uint64pow10), ("strconv.ErrRange", laid_strconv_ErrRange), ("strconv.ErrSyntax", laid_strconv_ErrSyntax), ("thyrsus/term.kids", laid_thyrsus_term_kids), ("thyrsus/term.binders", laid_thyrsus_term_binders), ("thyrsus/term.numbers", laid_thyrsus_term_numbers)] }
def ElabNamesSaid : Prop := elabNamesRow.holds Tryz.pinned (OpenSpec.ofChange elabNamesSpec)

/-- ITS FALSE NEIGHBOUR: 'it returns false'. Refute it at one input. -/
def elabNamesWrong : ChangeSpec := { name := "elabNames", fn := fun _ => fun
  | [d1, d2] => { results := [.lit (.bool false)], args := [d1, d2] }
  | _ => none }
def ElabNamesWrongFalsely : Prop := elabNamesRow.holds Tryz.pinned (OpenSpec.ofChange elabNamesWrong)

/-- 'thyrsuslaw8.ElabInserts': WHATEVER THE INPUT: true; the input reads as it did. -/
def elabInsertsSpec : ChangeSpec := { name := "elabInserts", fn := fun _ => fun
  | [d1, d2] => { results := [.lit (.bool true)], args := [d1, d2] }
  | _ => none }
def elabInsertsRow : OpenClaim := { program := "ythklnpkjlepagaagreatdoor", sum := "640e30101b2fd1ecc98fe08f8a023323c2d046a8b2265544390305dad3faf109", func := "thyrsus/thyrsuslaw8.ElabInserts", spec := "elabInserts", unfollowed := true, recurses := true, named := ["thyrsus/term.binders", "strconv.ErrSyntax", "strconv.ErrRange", "internal/strconv.uint64pow10", "math/bits.deBruijn32tab", "math/bits.deBruijn64tab", "thyrsus/term.kids", "thyrsus/term.numbers"], loops := true, apart := false, laid := [("math/bits.deBruijn32tab", laid_math_bits_deBruijn32tab), ("math/bits.deBruijn64tab", laid_math_bits_deBruijn64tab), ("internal/strconv.uint64pow10", laid_internal_strconv_uint64pow10), ("strconv.ErrRange", laid_strconv_ErrRange), ("strconv.ErrSyntax", laid_strconv_ErrSyntax), ("thyrsus/term.kids", laid_thyrsus_term_kids), ("thyrsus/term.binders", laid_thyrsus_term_binders), ("thyrsus/term.numbers", laid_thyrsus_term_numbers)] }
def ElabInsertsSaid : Prop := elabInsertsRow.holds Tryz.pinned (OpenSpec.ofChange elabInsertsSpec)

/-- ITS FALSE NEIGHBOUR: 'it returns false'. Refute it at one input. -/
def elabInsertsWrong : ChangeSpec := { name := "elabInserts", fn := fun _ => fun
  | [d1, d2] => { results := [.lit (.bool false)], args := [d1, d2] }
  | _ => none }
def ElabInsertsWrongFalsely : Prop := elabInsertsRow.holds Tryz.pinned (OpenSpec.ofChange elabInsertsWrong)

/- THE SECOND FORM. 'bulk': how many values and letters a reading holds, each counted each time it is reached (what is shared counts as often as it is met; a slice's spare places count too). A statement '..UptoSaid' is the law's where the arguments, and the package variables that the reading takes, are together of bulk at most 1048576: NARROWER than '..Said'. Prove '..Said' where nothing that the law and all that it calls make is longer than what came in: it says more and counts as full. Else prove '..UptoSaid'. A law counts once. -/
mutual
def uptoBulk {H : Type} : DataW H → Nat
  | .lit (.string bytes) => bytes.length + 1
  | .lit _ => 1
  | .nil => 1
  | .ptr d => uptoBulk d + 1
  | .slice elems spare => uptoBulkAll elems + uptoBulkAll spare + 1
  | .agg parts => uptoBulkAll parts + 1
  | .iface _ d => uptoBulk d + 1
  | .map entries => uptoBulkEntries entries + 1
  | .held _ => 1
def uptoBulkAll {H : Type} : List (DataW H) → Nat
  | [] => 0
  | d :: r => uptoBulk d + uptoBulkAll r
def uptoBulkEntries {H : Type} : List (Lit × DataW H) → Nat
  | [] => 0
  | x :: r => uptoBulkEntry x + uptoBulkEntries r
def uptoBulkEntry {H : Type} : Lit × DataW H → Nat
  | (.string bytes, d) => bytes.length + uptoBulk d + 1
  | (_, d) => uptoBulk d + 1
 end
def uptoSmall : (H : Type) → List (DataW H) → Bool := fun _ ds => decide (uptoBulkAll ds ≤ 1048576)
def OpenSpec.upto (s : _root_.Go.ChangeSpec) : _root_.Go.OpenSpec := { _root_.Go.OpenSpec.ofChange s with cond := some uptoSmall }

/-- 'thyrsuslaw8.ElabKnown', WHERE WHAT IT READS IS OF BULK AT MOST 1048576: true; the input reads as it did. -/
def elabKnownUptoRow : OpenClaim := { program := "ythklnpkjlepagaagreatdoor", sum := "640e30101b2fd1ecc98fe08f8a023323c2d046a8b2265544390305dad3faf109", func := "thyrsus/thyrsuslaw8.ElabKnown", spec := "elabKnown", unfollowed := true, recurses := true, named := ["thyrsus/term.binders", "strconv.ErrSyntax", "strconv.ErrRange", "internal/strconv.uint64pow10", "math/bits.deBruijn32tab", "math/bits.deBruijn64tab", "thyrsus/term.kids", "thyrsus/term.numbers"], apart := false, laid := [("math/bits.deBruijn32tab", laid_math_bits_deBruijn32tab), ("math/bits.deBruijn64tab", laid_math_bits_deBruijn64tab), ("internal/strconv.uint64pow10", laid_internal_strconv_uint64pow10), ("strconv.ErrRange", laid_strconv_ErrRange), ("strconv.ErrSyntax", laid_strconv_ErrSyntax), ("thyrsus/term.kids", laid_thyrsus_term_kids), ("thyrsus/term.binders", laid_thyrsus_term_binders), ("thyrsus/term.numbers", laid_thyrsus_term_numbers)], narrowed := true }
def ElabKnownUptoSaid : Prop := elabKnownUptoRow.holds Tryz.pinned (OpenSpec.upto elabKnownSpec)

/-- 'thyrsuslaw8.ElabForms', WHERE WHAT IT READS IS OF BULK AT MOST 1048576: true; the input reads as it did. -/
def elabFormsUptoRow : OpenClaim := { program := "ythklnpkjlepagaagreatdoor", sum := "640e30101b2fd1ecc98fe08f8a023323c2d046a8b2265544390305dad3faf109", func := "thyrsus/thyrsuslaw8.ElabForms", spec := "elabForms", unfollowed := true, recurses := true, named := ["thyrsus/term.binders", "strconv.ErrSyntax", "strconv.ErrRange", "internal/strconv.uint64pow10", "math/bits.deBruijn32tab", "math/bits.deBruijn64tab", "thyrsus/term.kids", "thyrsus/term.numbers"], apart := false, laid := [("math/bits.deBruijn32tab", laid_math_bits_deBruijn32tab), ("math/bits.deBruijn64tab", laid_math_bits_deBruijn64tab), ("internal/strconv.uint64pow10", laid_internal_strconv_uint64pow10), ("strconv.ErrRange", laid_strconv_ErrRange), ("strconv.ErrSyntax", laid_strconv_ErrSyntax), ("thyrsus/term.kids", laid_thyrsus_term_kids), ("thyrsus/term.binders", laid_thyrsus_term_binders), ("thyrsus/term.numbers", laid_thyrsus_term_numbers)], narrowed := true }
def ElabFormsUptoSaid : Prop := elabFormsUptoRow.holds Tryz.pinned (OpenSpec.upto elabFormsSpec)

/-- 'thyrsuslaw8.ElabBinders', WHERE WHAT IT READS IS OF BULK AT MOST 1048576: true; the input reads as it did. -/
def elabBindersUptoRow : OpenClaim := { program := "ythklnpkjlepagaagreatdoor", sum := "640e30101b2fd1ecc98fe08f8a023323c2d046a8b2265544390305dad3faf109", func := "thyrsus/thyrsuslaw8.ElabBinders", spec := "elabBinders", unfollowed := true, recurses := true, named := ["thyrsus/term.binders", "strconv.ErrSyntax", "strconv.ErrRange", "internal/strconv.uint64pow10", "math/bits.deBruijn32tab", "math/bits.deBruijn64tab", "thyrsus/term.kids", "thyrsus/term.numbers"], apart := false, laid := [("math/bits.deBruijn32tab", laid_math_bits_deBruijn32tab), ("math/bits.deBruijn64tab", laid_math_bits_deBruijn64tab), ("internal/strconv.uint64pow10", laid_internal_strconv_uint64pow10), ("strconv.ErrRange", laid_strconv_ErrRange), ("strconv.ErrSyntax", laid_strconv_ErrSyntax), ("thyrsus/term.kids", laid_thyrsus_term_kids), ("thyrsus/term.binders", laid_thyrsus_term_binders), ("thyrsus/term.numbers", laid_thyrsus_term_numbers)], narrowed := true }
def ElabBindersUptoSaid : Prop := elabBindersUptoRow.holds Tryz.pinned (OpenSpec.upto elabBindersSpec)

/-- 'thyrsuslaw8.ElabShapes', WHERE WHAT IT READS IS OF BULK AT MOST 1048576: true; the input reads as it did. -/
def elabShapesUptoRow : OpenClaim := { program := "ythklnpkjlepagaagreatdoor", sum := "640e30101b2fd1ecc98fe08f8a023323c2d046a8b2265544390305dad3faf109", func := "thyrsus/thyrsuslaw8.ElabShapes", spec := "elabShapes", unfollowed := true, recurses := true, named := ["thyrsus/term.binders", "strconv.ErrSyntax", "strconv.ErrRange", "internal/strconv.uint64pow10", "math/bits.deBruijn32tab", "math/bits.deBruijn64tab", "thyrsus/term.kids", "thyrsus/term.numbers"], apart := false, laid := [("math/bits.deBruijn32tab", laid_math_bits_deBruijn32tab), ("math/bits.deBruijn64tab", laid_math_bits_deBruijn64tab), ("internal/strconv.uint64pow10", laid_internal_strconv_uint64pow10), ("strconv.ErrRange", laid_strconv_ErrRange), ("strconv.ErrSyntax", laid_strconv_ErrSyntax), ("thyrsus/term.kids", laid_thyrsus_term_kids), ("thyrsus/term.binders", laid_thyrsus_term_binders), ("thyrsus/term.numbers", laid_thyrsus_term_numbers)], narrowed := true }
def ElabShapesUptoSaid : Prop := elabShapesUptoRow.holds Tryz.pinned (OpenSpec.upto elabShapesSpec)

/-- 'thyrsuslaw8.ElabNames', WHERE WHAT IT READS IS OF BULK AT MOST 1048576: true; the input reads as it did. -/
def elabNamesUptoRow : OpenClaim := { program := "ythklnpkjlepagaagreatdoor", sum := "640e30101b2fd1ecc98fe08f8a023323c2d046a8b2265544390305dad3faf109", func := "thyrsus/thyrsuslaw8.ElabNames", spec := "elabNames", unfollowed := true, recurses := true, named := ["thyrsus/term.binders", "strconv.ErrSyntax", "strconv.ErrRange", "internal/strconv.uint64pow10", "math/bits.deBruijn32tab", "math/bits.deBruijn64tab", "thyrsus/term.kids", "thyrsus/term.numbers"], apart := false, laid := [("math/bits.deBruijn32tab", laid_math_bits_deBruijn32tab), ("math/bits.deBruijn64tab", laid_math_bits_deBruijn64tab), ("internal/strconv.uint64pow10", laid_internal_strconv_uint64pow10), ("strconv.ErrRange", laid_strconv_ErrRange), ("strconv.ErrSyntax", laid_strconv_ErrSyntax), ("thyrsus/term.kids", laid_thyrsus_term_kids), ("thyrsus/term.binders", laid_thyrsus_term_binders), ("thyrsus/term.numbers", laid_thyrsus_term_numbers)], narrowed := true }
def ElabNamesUptoSaid : Prop := elabNamesUptoRow.holds Tryz.pinned (OpenSpec.upto elabNamesSpec)

/-- 'thyrsuslaw8.ElabInserts', WHERE WHAT IT READS IS OF BULK AT MOST 1048576: true; the input reads as it did. -/
def elabInsertsUptoRow : OpenClaim := { program := "ythklnpkjlepagaagreatdoor", sum := "640e30101b2fd1ecc98fe08f8a023323c2d046a8b2265544390305dad3faf109", func := "thyrsus/thyrsuslaw8.ElabInserts", spec := "elabInserts", unfollowed := true, recurses := true, named := ["thyrsus/term.binders", "strconv.ErrSyntax", "strconv.ErrRange", "internal/strconv.uint64pow10", "math/bits.deBruijn32tab", "math/bits.deBruijn64tab", "thyrsus/term.kids", "thyrsus/term.numbers"], loops := true, apart := false, laid := [("math/bits.deBruijn32tab", laid_math_bits_deBruijn32tab), ("math/bits.deBruijn64tab", laid_math_bits_deBruijn64tab), ("internal/strconv.uint64pow10", laid_internal_strconv_uint64pow10), ("strconv.ErrRange", laid_strconv_ErrRange), ("strconv.ErrSyntax", laid_strconv_ErrSyntax), ("thyrsus/term.kids", laid_thyrsus_term_kids), ("thyrsus/term.binders", laid_thyrsus_term_binders), ("thyrsus/term.numbers", laid_thyrsus_term_numbers)], narrowed := true }
def ElabInsertsUptoSaid : Prop := elabInsertsUptoRow.holds Tryz.pinned (OpenSpec.upto elabInsertsSpec)

end Rows
end Go.Proofs.YthklnpkjlepagaaGreatDoor
