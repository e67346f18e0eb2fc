/- What the listed variables give the runs, and one start that fits. -/
import Derived.Test.YthklnpkjlepagaaGreatDoorRows
import Derived.Test.YthklnpkjlepagaaGreatDoorAbg
import Derived.ProofKit
import Derived.LaidMore
import Derived.OpenShut
import Derived.Stop.Joined
import Derived.Stop.LaidErr
import Derived.LaidHandle
import Derived.MakeChecks
import Derived.Below
import Derived.ChangeSame
import Derived.Lib.LaidTab
namespace Go.Proofs.YthklnpkjlepagaaGreatDoor.Ab
open Go.ChangeShapes Go.WideShapes Go.ChangeAt Go.RowKit

theorem ownT : ownKnob Tryz.prog.godebug = none := by kernel_rfl
/-- A variable at the head of the list: it reads as its datum. -/
theorem head_reads {W : World} {name : String} {d : DataW Unit} {rest : List (String × DataW Unit)} {g : Nat} {t : TypeId} (hg : Tryz.prog.globalNamed name = some g) (hty : (Tryz.prog.globals[g]?).map (·.type) = some t) (h : laidMet Tryz.prog ((name, d) :: rest) W) :
    ∃ cs fuel p enc base sp held, W.var? Tryz.prog name = some cs ∧ DataW.trod (H := Unit) enc Tryz.prog W base sp held fuel t cs.toList = some (d, p) := by
  obtain ⟨ps, ⟨g', t', cs, fuel, p, q, hg', ht', hvar, hd, _, _⟩, _⟩ := h
  obtain rfl := Option.some.inj (hg'.symm.trans hg)
  obtain rfl := Option.some.inj (ht'.symm.trans hty)
  exact ⟨cs, fuel, p, _, _, _, _, hvar, hd⟩
theorem at_of_map {α β : Type} {xs : List (α × β)} {F : Nat → α} {n : Nat} (h : xs.map (·.1) = (List.range n).map F) {i : Nat} (hi : i < n) : ∃ p, xs[i]? = some (F i, p) := by
  have h1 := congrArg (·[i]?) h
  simp only [List.getElem?_map, List.getElem?_range hi, Option.map_some] at h1
  obtain ⟨x, hx, he⟩ := Option.map_eq_some_iff.1 h1
  exact ⟨x.2, by rw [hx, ← he]⟩

theorem gn0 : Tryz.prog.globalNamed "thyrsus/term.binders" = some 0 := by kernel_rfl
theorem gt0 : (Tryz.prog.globals[0]?).map (·.type) = some 227 := by kernel_rfl
theorem ce226 : Tryz.prog.cellsOf 226 = 4 := by kernel_rfl
theorem ce225 : Tryz.prog.cellsOf 225 = 1 := by kernel_rfl
theorem data0 : (Rows.laid_thyrsus_term_binders : DataW Unit) = .agg ((List.range 31).map fun i => Lib.tabData .i8 ((List.range 4).map fun k => nums0.getD (i * 4 + k) 0)) := by kernel_rfl
set_option maxRecDepth 20000 in
theorem at0 {W : World} {rest : List (String × DataW Unit)} (h : laidMet Tryz.prog (("thyrsus/term.binders", Rows.laid_thyrsus_term_binders) :: rest) W) : NumsAt W 0 .i8 nums0 := by
  obtain ⟨cs, fuel, p, enc, base, sp, held, hv, hd⟩ := head_reads gn0 gt0 h
  have key : ∀ op k : Nat, op < 31 → k < 4 → W.cell? ⟨0, op * 4 + k, none⟩ = some (.int .i8 (nums0.getD (op * 4 + k) 0)) := by
    intro op k h1 h2
    rw [data0] at hd
    obtain ⟨xs, m, rfl, hx, hl, hxl, hf⟩ := DataW.trod_array Tryz.underlying227 hd
    have hx1 := congrArg Prod.fst hx
    simp only [DataW.agg.injEq] at hx1
    obtain ⟨pp, hp⟩ := at_of_map hx1.symm h1
    have hi := hf op (by omega)
    rw [hp, ce226] at hi
    have hc := Lib.cells_of_tab Tryz.underlying226 Tryz.underlying225 ce225 ce226 hi
    have h9 := World.var?_cell gn0 hv (op * 4 + k)
    rw [h9]
    have h8 := congrArg (·[k]?) hc
    simp only [List.getElem?_take, h2, if_true, List.getElem?_drop, List.getElem?_map, List.getElem?_range h2, Option.map_some] at h8
    simpa using h8
  refine ⟨World.block_lt_of_cell? W _ (key 0 0 (by decide) (by decide)), fun i z hi => ?_⟩
  have hlt : i < 124 := by
    rcases Nat.lt_or_ge i 124 with h | h
    · exact h
    · rw [List.getElem?_eq_none (by simp [nums0]; omega)] at hi; cases hi
  have := key (i / 4) (i % 4) (by omega) (by omega)
  rw [show i / 4 * 4 + i % 4 = i by omega] at this
  rw [this, List.getD_eq_getElem?_getD, hi]
  rfl

theorem gn1 : Tryz.prog.globalNamed "thyrsus/term.kids" = some 1 := by kernel_rfl
theorem gt1 : (Tryz.prog.globals[1]?).map (·.type) = some 238 := by kernel_rfl
theorem ce238 : Tryz.prog.cellsOf 238 = 31 := by kernel_rfl
theorem data1 : (Rows.laid_thyrsus_term_kids : DataW Unit) = Lib.tabData .i8 ((List.range 31).map fun i => nums1.getD i 0) := by kernel_rfl
set_option maxRecDepth 20000 in
theorem at1 {W : World} {rest : List (String × DataW Unit)} (h : laidMet Tryz.prog (("thyrsus/term.kids", Rows.laid_thyrsus_term_kids) :: rest) W) : NumsAt W 1 .i8 nums1 := by
  rw [data1] at h
  have h2 := Lib.tabIs_of_head gn1 gt1 Tryz.underlying238 Tryz.underlying225 ce225 ce238 h
  have key : ∀ i : Nat, i < 31 → W.cell? ⟨1, i, none⟩ = some (.int .i8 (nums1.getD i 0)) := by
    intro i hi
    have h3 := h2.cell gn1 i (by simp; omega)
    rw [h3]
    simp [List.getElem?_range hi]
  refine ⟨World.block_lt_of_cell? W _ (key 0 (by decide)), fun i z hi => ?_⟩
  have hlt : i < 31 := by
    rcases Nat.lt_or_ge i 31 with h | h
    · exact h
    · rw [List.getElem?_eq_none (by simp [nums1]; omega)] at hi; cases hi
  rw [key i hlt, List.getD_eq_getElem?_getD, hi]
  rfl

theorem gn2 : Tryz.prog.globalNamed "thyrsus/term.numbers" = some 2 := by kernel_rfl
theorem gt2 : (Tryz.prog.globals[2]?).map (·.type) = some 241 := by kernel_rfl
theorem ce240 : Tryz.prog.cellsOf 240 = 2 := by kernel_rfl
theorem ce3 : Tryz.prog.cellsOf 3 = 1 := by kernel_rfl
theorem data2 : (Rows.laid_thyrsus_term_numbers : DataW Unit) = .agg ((List.range 31).map fun i => .agg [.lit (.int .i64 (nums2.getD (i * 2) 0)), .lit (.int .i64 (nums2.getD (i * 2 + 1) 0))]) := by kernel_rfl
set_option maxRecDepth 20000 in
theorem at2 {W : World} {rest : List (String × DataW Unit)} (h : laidMet Tryz.prog (("thyrsus/term.numbers", Rows.laid_thyrsus_term_numbers) :: rest) W) : NumsAt W 2 .i64 nums2 := by
  obtain ⟨cs, fuel, p, enc, base, sp, held, hv, hd⟩ := head_reads gn2 gt2 h
  have key : ∀ op : Nat, op < 31 → W.cell? ⟨2, op * 2, none⟩ = some (.int .i64 (nums2.getD (op * 2) 0)) ∧ W.cell? ⟨2, op * 2 + 1, none⟩ = some (.int .i64 (nums2.getD (op * 2 + 1) 0)) := by
    intro op h1
    rw [data2] at hd
    obtain ⟨xs, m, rfl, hx, hl, hxl, hf⟩ := DataW.trod_array Tryz.underlying241 hd
    have hx1 := congrArg Prod.fst hx
    simp only [DataW.agg.injEq] at hx1
    obtain ⟨pp, hp⟩ := at_of_map hx1.symm h1
    have hi := hf op (by omega)
    rw [hp, ce240] at hi
    obtain ⟨y0, y1, n, he, hl2, g0, g1⟩ := trod_struct2 Tryz.underlying240 hi
    have he1 := congrArg Prod.fst he
    simp only [DataW.agg.injEq, List.cons.injEq, and_true] at he1
    obtain ⟨z0, hc0, e0, _⟩ := DataW.trod_int Tryz.underlying3 g0
    obtain ⟨z1, hc1, e1, _⟩ := DataW.trod_int Tryz.underlying3 g1
    have q0 := he1.1; have q1 := he1.2
    rw [e0] at q0; rw [e1] at q1
    simp only [DataW.lit.injEq, Lit.int.injEq, true_and] at q0 q1
    constructor
    · rw [World.var?_cell gn2 hv (op * 2)]
      have h8 := congrArg (·[0]?) hc0
      simp [ce3, List.getElem?_drop] at h8
      rw [q0]
      simpa using h8
    · rw [World.var?_cell gn2 hv (op * 2 + 1)]
      have h8 := congrArg (·[0]?) hc1
      simp [ce3, List.getElem?_drop] at h8
      rw [q1]
      simpa using h8
  refine ⟨World.block_lt_of_cell? W _ (key 0 (by decide)).1, fun i z hi => ?_⟩
  have hlt : i < 62 := by
    rcases Nat.lt_or_ge i 62 with h | h
    · exact h
    · rw [List.getElem?_eq_none (by simp [nums2]; omega)] at hi; cases hi
  have hk := key (i / 2) (by omega)
  have e : (i = i / 2 * 2) ∨ (i = i / 2 * 2 + 1) := by omega
  rcases e with e | e
  · have := hk.1
    rw [← e] at this
    rw [this, List.getD_eq_getElem?_getD, hi]
    rfl
  · have := hk.2
    rw [← e] at this
    rw [this, List.getD_eq_getElem?_getD, hi]
    rfl

theorem gn5 : Tryz.prog.globalNamed "internal/strconv.uint64pow10" = some 5 := by kernel_rfl
theorem gt5 : (Tryz.prog.globals[5]?).map (·.type) = some 325 := by kernel_rfl
theorem ce325 : Tryz.prog.cellsOf 325 = 20 := by kernel_rfl
theorem ce205 : Tryz.prog.cellsOf 205 = 1 := by kernel_rfl
theorem data5 : (Rows.laid_internal_strconv_uint64pow10 : DataW Unit) = Lib.tabData .u64 ((List.range 20).map fun i => nums5.getD i 0) := by kernel_rfl
set_option maxRecDepth 20000 in
theorem at5 {W : World} {rest : List (String × DataW Unit)} (h : laidMet Tryz.prog (("internal/strconv.uint64pow10", Rows.laid_internal_strconv_uint64pow10) :: rest) W) : NumsAt W 5 .u64 nums5 := by
  rw [data5] at h
  have h2 := Lib.tabIs_of_head gn5 gt5 Tryz.underlying325 Tryz.underlying205 ce205 ce325 h
  have key : ∀ i : Nat, i < 20 → W.cell? ⟨5, i, none⟩ = some (.int .u64 (nums5.getD i 0)) := by
    intro i hi
    have h3 := h2.cell gn5 i (by simp; omega)
    rw [h3]
    simp [List.getElem?_range hi]
  refine ⟨World.block_lt_of_cell? W _ (key 0 (by decide)), fun i z hi => ?_⟩
  have hlt : i < 20 := by
    rcases Nat.lt_or_ge i 20 with h | h
    · exact h
    · rw [List.getElem?_eq_none (by simp [nums5]; omega)] at hi; cases hi
  rw [key i hlt, List.getD_eq_getElem?_getD, hi]
  rfl

/-- The statements' list. -/
def laid8 : List (String × DataW Unit) := Rows.elabKnownRow.laid

set_option maxRecDepth 100000 in
theorem one_of {W : World} (h : laidMetH Tryz.prog laid8 W) : BndAt W := by
  rw [MakeChecks.laidMetH_plain _ _ _ (by kernel_rfl)] at h
  replace h : laidMet Tryz.prog (("math/bits.deBruijn32tab", Rows.laid_math_bits_deBruijn32tab) :: ("math/bits.deBruijn64tab", Rows.laid_math_bits_deBruijn64tab) :: ("internal/strconv.uint64pow10", Rows.laid_internal_strconv_uint64pow10) :: ("strconv.ErrRange", Rows.laid_strconv_ErrRange) :: ("strconv.ErrSyntax", Rows.laid_strconv_ErrSyntax) :: ("thyrsus/term.kids", Rows.laid_thyrsus_term_kids) :: ("thyrsus/term.binders", Rows.laid_thyrsus_term_binders) :: ("thyrsus/term.numbers", Rows.laid_thyrsus_term_numbers) :: []) W := h
  exact ⟨at0 h.tail.tail.tail.tail.tail.tail, at1 h.tail.tail.tail.tail.tail, at2 h.tail.tail.tail.tail.tail.tail.tail, at5 h.tail.tail, trivial⟩
set_option maxRecDepth 100000 in
theorem door8 (os : Os) (args : Array Value) : laidMetH Tryz.prog laid8 ((World.doorLaid Tryz.prog 4000 os).forCall (fun _ _ => 0) ⟨#[], args, []⟩).memory :=
  laidMetH_of_parts3 (fuel := 8) (laidMet_of_run' 8 (by kernel_rfl) (by kernel_rfl)) (by kernel_rfl) (by kernel_rfl)
#print axioms door8
end Go.Proofs.YthklnpkjlepagaaGreatDoor.Ab
