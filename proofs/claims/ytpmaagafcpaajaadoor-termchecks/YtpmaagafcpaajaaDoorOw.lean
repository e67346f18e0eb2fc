/- What the listed variables give the walks, and one start that fits. -/
import Derived.Test.YtpmaagafcpaajaaDoorRows
import Derived.Test.YtpmaagafcpaajaaDoorWv
import Derived.ProofKit
import Derived.LaidMore
import Derived.OpenShut
import Derived.Stop.Joined
import Derived.Stop.LaidErr
import Derived.LaidHandle
import Derived.MakeChecks
import Derived.Below
import Derived.Lib.LaidTab
namespace Go.Proofs.YtpmaagafcpaajaaDoor
open Go.ChangeShapes Go.WideShapes Go.ChangeAt Go.RowKit

theorem ownT : ownKnob Tryd.prog.godebug = none := by kernel_rfl
theorem gPow : Tryd.prog.globalNamed "internal/strconv.uint64pow10" = some 4 := by kernel_rfl
theorem tPow : (Tryd.prog.globals[4]?).map (·.type) = some 117 := by kernel_rfl
theorem gBnd : Tryd.prog.globalNamed "thyrsus/term.binders" = some 0 := by kernel_rfl
theorem tBnd : (Tryd.prog.globals[0]?).map (·.type) = some 62 := by kernel_rfl
theorem gLet : Tryd.prog.globalNamed "thyrsus/term.letters" = some 3 := by kernel_rfl
theorem tLet : (Tryd.prog.globals[3]?).map (·.type) = some 106 := by kernel_rfl

/-- A variable at the head of the list: it reads as its datum. -/
theorem head_reads {W : World} {name : String} {d : DataW Unit} {rest : List (String × DataW Unit)} {g : Nat} {t : TypeId} (hg : Tryd.prog.globalNamed name = some g) (hty : (Tryd.prog.globals[g]?).map (·.type) = some t) (h : laidMet Tryd.prog ((name, d) :: rest) W) :
    ∃ cs fuel p enc base sp held, W.var? Tryd.prog name = some cs ∧ DataW.trod (H := Unit) enc Tryd.prog W base sp held fuel t cs.toList = some (d, p) := by
  obtain ⟨ps, ⟨g', t', cs, fuel, p, q, hg', ht', hvar, hd, _, _⟩, _⟩ := h
  obtain rfl := Option.some.inj (hg.symm.trans hg')
  obtain rfl := Option.some.inj (hty.symm.trans ht')
  exact ⟨cs, fuel, p, _, _, _, _, hvar, hd⟩

theorem binders_data : (Rows.laid_thyrsus_term_binders : DataW Unit) = .agg ((List.range 31).map fun i => Lib.tabData .i8 ((List.range 4).map fun k => ((bnd (i : Nat) (k : Nat) : Nat) : Int))) := by kernel_rfl
theorem letters_data : (Rows.laid_thyrsus_term_letters : DataW Unit) = .agg ((List.range 31).map fun i => .lit (.string (letL (i : Nat)))) := by kernel_rfl
theorem c62 : Tryd.prog.cellsOf 62 = 124 := by kernel_rfl
theorem c61 : Tryd.prog.cellsOf 61 = 4 := by kernel_rfl
theorem c60 : Tryd.prog.cellsOf 60 = 1 := by kernel_rfl
theorem c106 : Tryd.prog.cellsOf 106 = 31 := by kernel_rfl
theorem c9 : Tryd.prog.cellsOf 9 = 1 := by kernel_rfl

theorem at_of_map {α β : Type} {xs : List (α × β)} {F : Nat → α} {n : Nat} (h : xs.map (·.1) = (List.range n).map F) {i : Nat} (hi : i < n) : ∃ p, xs[i]? = some (F i, p) := by
  have h1 := congrArg (·[i]?) h
  simp only [List.getElem?_map, List.getElem?_range hi, Option.map_some] at h1
  obtain ⟨x, hx, he⟩ := Option.map_eq_some_iff.1 h1
  exact ⟨x.2, by rw [hx, ← he]⟩

set_option maxRecDepth 20000 in
theorem tb_of {W : World} {rest : List (String × DataW Unit)} (hs : 4 ≤ W.heap.size) (h : laidMet Tryd.prog (("thyrsus/term.binders", Rows.laid_thyrsus_term_binders) :: rest) W) : Tb W := by
  obtain ⟨cs, fuel, p, enc, base, sp, held, hv, hd⟩ := head_reads gBnd tBnd h
  refine ⟨hs, fun op k h1 h2 => ?_⟩
  rw [binders_data] at hd
  obtain ⟨xs, m, rfl, hx, hl, hxl, hf⟩ := DataW.trod_array Tryd.underlying62 hd
  have hx1 := congrArg Prod.fst hx
  simp only [DataW.agg.injEq] at hx1
  obtain ⟨pp, hp⟩ := at_of_map hx1.symm (show op < 31 by omega)
  have hi := hf op (by omega)
  rw [hp, c61] at hi
  have hc := Lib.cells_of_tab Tryd.underlying61 Tryd.underlying60 c60 c61 hi
  have h9 := World.var?_cell gBnd hv (op * 4 + k)
  rw [h9]
  have h8 := congrArg (·[k]?) hc
  simp only [List.getElem?_take, h2, if_true, List.getElem?_drop, List.getElem?_map, List.getElem?_range h2, Option.map_some] at h8
  simpa using h8

set_option maxRecDepth 20000 in
theorem tl_of {W : World} {rest : List (String × DataW Unit)} (hs : 4 ≤ W.heap.size) (h : laidMet Tryd.prog (("thyrsus/term.letters", Rows.laid_thyrsus_term_letters) :: rest) W) : Tl W := by
  obtain ⟨cs, fuel, p, enc, base, sp, held, hv, hd⟩ := head_reads gLet tLet h
  refine ⟨hs, fun op h1 => ?_⟩
  rw [letters_data] at hd
  obtain ⟨xs, m, rfl, hx, hl, hxl, hf⟩ := DataW.trod_array Tryd.underlying106 hd
  have hx1 := congrArg Prod.fst hx
  simp only [DataW.agg.injEq] at hx1
  obtain ⟨pp, hp⟩ := at_of_map hx1.symm (show op < 31 by omega)
  have hi := hf op (by omega)
  rw [hp, c9] at hi
  obtain ⟨s, hc, he, _⟩ := DataW.trod_string Tryd.underlying9 hi
  have he1 := congrArg Prod.fst he
  simp only [DataW.lit.injEq, Lit.string.injEq] at he1
  have h9 := World.var?_cell gLet hv op
  rw [h9]
  have h8 := congrArg (·[0]?) hc
  simp only [Nat.mul_one, List.getElem?_take, Nat.zero_lt_one, if_true, List.getElem?_drop, Nat.add_zero, List.getElem?_cons_zero] at h8
  rw [letN_eq, he1]
  simpa using h8

set_option maxRecDepth 100000 in
theorem tabs_of {W : World} {rest : List (String × DataW Unit)} (h : laidMet Tryd.prog (("internal/strconv.uint64pow10", Lib.tabData .u64 Lib.pow10Tab) :: rest) W) : Tabs W.heap.size W ∧ 4 ≤ W.heap.size := by
  have h1 := Lib.tabIs_of_head gPow tPow Tryd.underlying117 Tryd.underlying111 (by kernel_rfl) (by kernel_rfl) h
  refine ⟨Lib.tabBelow_of_tabIs h1, ?_⟩
  have h2 := h1.cell gPow 0 (by decide)
  have := World.block_lt_of_cell? W _ h2
  have : 4 < W.heap.size := this
  omega
#print axioms tb_of
#print axioms tl_of
#print axioms tabs_of

/-- The lists of the statements of shifts. -/
def laid5 : List (String × DataW Unit) := Rows.termShiftsRow.laid
def laid4 : List (String × DataW Unit) := Rows.termTextsRow.laid

set_option maxRecDepth 100000 in
theorem five_of {W : World} (h : laidMetH Tryd.prog laid5 W) : Tabs W.heap.size W ∧ Tb W ∧ Tl W := by
  rw [MakeChecks.laidMetH_plain _ _ _ (by kernel_rfl)] at h
  have h3 : laidMet Tryd.prog (("internal/strconv.uint64pow10", Lib.tabData .u64 Lib.pow10Tab) :: [("thyrsus/term.binders", Rows.laid_thyrsus_term_binders), ("thyrsus/term.letters", Rows.laid_thyrsus_term_letters)]) W := h.tail.tail
  obtain ⟨h1, h2⟩ := tabs_of h3
  exact ⟨h1, tb_of h2 h3.tail, tl_of h2 h3.tail.tail⟩
set_option maxRecDepth 100000 in
theorem four_of {W : World} (h : laidMetH Tryd.prog laid4 W) : Tabs W.heap.size W ∧ Tl W := by
  rw [MakeChecks.laidMetH_plain _ _ _ (by kernel_rfl)] at h
  have h3 : laidMet Tryd.prog (("internal/strconv.uint64pow10", Lib.tabData .u64 Lib.pow10Tab) :: [("thyrsus/term.letters", Rows.laid_thyrsus_term_letters)]) W := h.tail.tail
  obtain ⟨h1, h2⟩ := tabs_of h3
  exact ⟨h1, tl_of h2 h3.tail⟩
set_option maxRecDepth 100000 in
theorem door5 (os : Os) (args : Array Value) : laidMetH Tryd.prog laid5 ((World.doorLaid Tryd.prog 4000 os).forCall (fun _ _ => 0) ⟨#[], args, []⟩).memory :=
  laidMetH_of_parts3 (fuel := 8) (laidMet_of_run' 8 (by kernel_rfl) (by kernel_rfl)) (by kernel_rfl) (by kernel_rfl)
set_option maxRecDepth 100000 in
theorem door4 (os : Os) (args : Array Value) : laidMetH Tryd.prog laid4 ((World.doorLaid Tryd.prog 4000 os).forCall (fun _ _ => 0) ⟨#[], args, []⟩).memory :=
  laidMetH_of_parts3 (fuel := 8) (laidMet_of_run' 8 (by kernel_rfl) (by kernel_rfl)) (by kernel_rfl) (by kernel_rfl)
end Go.Proofs.YtpmaagafcpaajaaDoor
