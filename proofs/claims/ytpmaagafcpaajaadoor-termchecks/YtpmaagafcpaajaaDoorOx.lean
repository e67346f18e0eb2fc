/- What the listed tables of kids and numbers give; one start that fits. -/
import Derived.Test.YtpmaagafcpaajaaDoorOw
import Derived.ChangeSame
namespace Go.Proofs.YtpmaagafcpaajaaDoor
open Go.ChangeShapes Go.WideShapes Go.ChangeAt Go.RowKit

theorem gKid : Tryd.prog.globalNamed "thyrsus/term.kids" = some 1 := by kernel_rfl
theorem tKid : (Tryd.prog.globals[1]?).map (·.type) = some 98 := by kernel_rfl
theorem gNum : Tryd.prog.globalNamed "thyrsus/term.numbers" = some 2 := by kernel_rfl
theorem tNum : (Tryd.prog.globals[2]?).map (·.type) = some 101 := by kernel_rfl
theorem c91 : Tryd.prog.cellsOf 98 = 31 := by kernel_rfl
theorem c93 : Tryd.prog.cellsOf 100 = 2 := by kernel_rfl
theorem c3i : Tryd.prog.cellsOf 3 = 1 := by kernel_rfl
theorem kids_data : (Rows.laid_thyrsus_term_kids : DataW Unit) = Lib.tabData .i8 ((List.range 31).map fun i => ((arT (i : Nat) : Nat) : Int)) := by kernel_rfl
theorem numbers_data : (Rows.laid_thyrsus_term_numbers : DataW Unit) = .agg ((List.range 31).map fun i => .agg [.lit (.int .i64 (loN (i : Nat))), .lit (.int .i64 (hiN (i : Nat)))]) := by kernel_rfl

set_option maxRecDepth 20000 in
theorem tk_of {W : World} {rest rest' : List (String × DataW Unit)} (hs : 4 ≤ W.heap.size) (h : laidMet Tryd.prog (("thyrsus/term.kids", Rows.laid_thyrsus_term_kids) :: rest) W) (hn : laidMet Tryd.prog (("thyrsus/term.numbers", Rows.laid_thyrsus_term_numbers) :: rest') W) : Tk W := by
  have key : ∀ op : Nat, op ≤ 30 → W.cell? ⟨2, op * 2, none⟩ = some (.int .i64 (loN op)) ∧ W.cell? ⟨2, op * 2 + 1, none⟩ = some (.int .i64 (hiN op)) := by
    intro op h1
    obtain ⟨cs, fuel, p, enc, base, sp, held, hv, hd⟩ := head_reads gNum tNum hn
    rw [numbers_data] at hd
    obtain ⟨xs, m, rfl, hx, hl, hxl, hf⟩ := DataW.trod_array Tryd.underlying101 hd
    have hx1 := congrArg Prod.fst hx
    simp only [DataW.agg.injEq] at hx1
    obtain ⟨pp, hp⟩ := at_of_map hx1.symm (show op < 31 by omega)
    have hi := hf op (by omega)
    rw [hp, c93] at hi
    obtain ⟨y0, y1, n, he, hl2, g0, g1⟩ := trod_struct2 Tryd.underlying100 hi
    have he1 := congrArg Prod.fst he
    simp only [DataW.agg.injEq, List.cons.injEq, and_true] at he1
    obtain ⟨z0, hc0, e0, _⟩ := DataW.trod_int Tryd.underlying3 g0
    obtain ⟨z1, hc1, e1, _⟩ := DataW.trod_int Tryd.underlying3 g1
    have q0 := he1.1; have q1 := he1.2
    rw [e0] at q0; rw [e1] at q1
    simp only [DataW.lit.injEq, Lit.int.injEq, true_and] at q0 q1
    constructor
    · rw [World.var?_cell gNum hv (op * 2)]
      have h8 := congrArg (·[0]?) hc0
      simp [c3i, List.getElem?_drop] at h8
      rw [q0]
      simpa using h8
    · rw [World.var?_cell gNum hv (op * 2 + 1)]
      have h8 := congrArg (·[0]?) hc1
      simp [c3i, List.getElem?_drop] at h8
      rw [q1]
      simpa using h8
  refine ⟨hs, fun op h1 => ?_, fun op h1 => (key op h1).1, fun op h1 => (key op h1).2⟩
  rw [kids_data] at h
  have h2 := Lib.tabIs_of_head gKid tKid Tryd.underlying98 Tryd.underlying60 c60 c91 h
  have h3 := h2.cell gKid op (by simp; omega)
  rw [h3]
  have h31 : op < 31 := by omega
  simp [List.getElem?_range h31]

def laid7 : List (String × DataW Unit) := Rows.termChecksRow.laid

set_option maxRecDepth 100000 in
theorem seven_of {W : World} (h : laidMetH Tryd.prog laid7 W) : Tabs W.heap.size W ∧ Tk W ∧ Tb W ∧ Tl W := by
  rw [MakeChecks.laidMetH_plain _ _ _ (by kernel_rfl)] at h
  have h3 : laidMet Tryd.prog (("internal/strconv.uint64pow10", Lib.tabData .u64 Lib.pow10Tab) :: [("thyrsus/term.kids", Rows.laid_thyrsus_term_kids), ("thyrsus/term.binders", Rows.laid_thyrsus_term_binders), ("thyrsus/term.numbers", Rows.laid_thyrsus_term_numbers), ("thyrsus/term.letters", Rows.laid_thyrsus_term_letters)]) W := h.tail.tail
  obtain ⟨h1, h2⟩ := tabs_of h3
  exact ⟨h1, tk_of h2 h3.tail h3.tail.tail.tail, tb_of h2 h3.tail.tail, tl_of h2 h3.tail.tail.tail.tail⟩
set_option maxRecDepth 100000 in
theorem door7 (os : Os) (args : Array Value) : laidMetH Tryd.prog laid7 ((World.doorLaid Tryd.prog 4000 os).forCall (fun _ _ => 0) ⟨#[], args, []⟩).memory :=
  laidMetH_of_parts3 (fuel := 8) (laidMet_of_run' 8 (by kernel_rfl) (by kernel_rfl)) (by kernel_rfl) (by kernel_rfl)
#print axioms seven_of
#print axioms door7
end Go.Proofs.YtpmaagafcpaajaaDoor
