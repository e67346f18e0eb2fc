/- What the listed variables give the runs, and one start that fits. -/
import Derived.Test.YthccgmgmgcinnaaDoorRows
import Derived.Test.YthccgmgmgcinnaaDoorAbg
import Derived.ProofKit
import Derived.LaidMore
import Derived.OpenShut
import Derived.Stop.Joined
import Derived.Stop.LaidErr
import Derived.LaidHandle
import Derived.MakeChecks
import Derived.Below
import Derived.ChangeSame
import Derived.Lib.LaidTab
namespace Go.Proofs.YthccgmgmgcinnaaDoor.Ab
open Go.ChangeShapes Go.WideShapes Go.ChangeAt Go.RowKit

theorem ownT : ownKnob Tryd.prog.godebug = none := by kernel_rfl
/-- A variable at the head of the list: it reads as its datum. -/
theorem head_reads {W : World} {name : String} {d : DataW Unit} {rest : List (String × DataW Unit)} {g : Nat} {t : TypeId} (hg : Tryd.prog.globalNamed name = some g) (hty : (Tryd.prog.globals[g]?).map (·.type) = some t) (h : laidMet Tryd.prog ((name, d) :: rest) W) :
    ∃ cs fuel p enc base sp held, W.var? Tryd.prog name = some cs ∧ DataW.trod (H := Unit) enc Tryd.prog W base sp held fuel t cs.toList = some (d, p) := by
  obtain ⟨ps, ⟨g', t', cs, fuel, p, q, hg', ht', hvar, hd, _, _⟩, _⟩ := h
  obtain rfl := Option.some.inj (hg'.symm.trans hg)
  obtain rfl := Option.some.inj (ht'.symm.trans hty)
  exact ⟨cs, fuel, p, _, _, _, _, hvar, hd⟩
theorem at_of_map {α β : Type} {xs : List (α × β)} {F : Nat → α} {n : Nat} (h : xs.map (·.1) = (List.range n).map F) {i : Nat} (hi : i < n) : ∃ p, xs[i]? = some (F i, p) := by
  have h1 := congrArg (·[i]?) h
  simp only [List.getElem?_map, List.getElem?_range hi, Option.map_some] at h1
  obtain ⟨x, hx, he⟩ := Option.map_eq_some_iff.1 h1
  exact ⟨x.2, by rw [hx, ← he]⟩

theorem gn0 : Tryd.prog.globalNamed "thyrsus/term.binders" = some 0 := by kernel_rfl
theorem gt0 : (Tryd.prog.globals[0]?).map (·.type) = some 121 := by kernel_rfl
theorem ce120 : Tryd.prog.cellsOf 120 = 4 := by kernel_rfl
theorem ce119 : Tryd.prog.cellsOf 119 = 1 := by kernel_rfl
theorem data0 : (Rows.laid_thyrsus_term_binders : DataW Unit) = .agg ((List.range 31).map fun i => Lib.tabData .i8 ((List.range 4).map fun k => nums0.getD (i * 4 + k) 0)) := by kernel_rfl
set_option maxRecDepth 20000 in
theorem at0 {W : World} {rest : List (String × DataW Unit)} (h : laidMet Tryd.prog (("thyrsus/term.binders", Rows.laid_thyrsus_term_binders) :: rest) W) : NumsAt W 0 .i8 nums0 := by
  obtain ⟨cs, fuel, p, enc, base, sp, held, hv, hd⟩ := head_reads gn0 gt0 h
  have key : ∀ op k : Nat, op < 31 → k < 4 → W.cell? ⟨0, op * 4 + k, none⟩ = some (.int .i8 (nums0.getD (op * 4 + k) 0)) := by
    intro op k h1 h2
    rw [data0] at hd
    obtain ⟨xs, m, rfl, hx, hl, hxl, hf⟩ := DataW.trod_array Tryd.underlying121 hd
    have hx1 := congrArg Prod.fst hx
    simp only [DataW.agg.injEq] at hx1
    obtain ⟨pp, hp⟩ := at_of_map hx1.symm h1
    have hi := hf op (by omega)
    rw [hp, ce120] at hi
    have hc := Lib.cells_of_tab Tryd.underlying120 Tryd.underlying119 ce119 ce120 hi
    have h9 := World.var?_cell gn0 hv (op * 4 + k)
    rw [h9]
    have h8 := congrArg (·[k]?) hc
    simp only [List.getElem?_take, h2, if_true, List.getElem?_drop, List.getElem?_map, List.getElem?_range h2, Option.map_some] at h8
    simpa using h8
  refine ⟨World.block_lt_of_cell? W _ (key 0 0 (by decide) (by decide)), fun i z hi => ?_⟩
  have hlt : i < 124 := by
    rcases Nat.lt_or_ge i 124 with h | h
    · exact h
    · rw [List.getElem?_eq_none (by simp [nums0]; omega)] at hi; cases hi
  have := key (i / 4) (i % 4) (by omega) (by omega)
  rw [show i / 4 * 4 + i % 4 = i by omega] at this
  rw [this, List.getD_eq_getElem?_getD, hi]
  rfl

/-- The statements' list. -/
def laid1 : List (String × DataW Unit) := Rows.stageKnownRow.laid

set_option maxRecDepth 100000 in
theorem one_of {W : World} (h : laidMetH Tryd.prog laid1 W) : BndAt W := by
  rw [MakeChecks.laidMetH_plain _ _ _ (by kernel_rfl)] at h
  replace h : laidMet Tryd.prog (("thyrsus/term.binders", Rows.laid_thyrsus_term_binders) :: []) W := h
  exact ⟨at0 h, trivial⟩
set_option maxRecDepth 100000 in
theorem door1 (os : Os) (args : Array Value) : laidMetH Tryd.prog laid1 ((World.doorLaid Tryd.prog 4000 os).forCall (fun _ _ => 0) ⟨#[], args, []⟩).memory :=
  laidMetH_of_parts3 (fuel := 8) (laidMet_of_run' 8 (by kernel_rfl) (by kernel_rfl)) (by kernel_rfl) (by kernel_rfl)
#print axioms door1
end Go.Proofs.YthccgmgmgcinnaaDoor.Ab
