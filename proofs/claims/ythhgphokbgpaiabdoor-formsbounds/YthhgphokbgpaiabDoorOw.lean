/- What the listed variables give the walks, and one start that fits. -/
import Derived.Test.YthhgphokbgpaiabDoorRows
import Derived.Test.YthhgphokbgpaiabDoorVa
import Derived.ProofKit
import Derived.LaidMore
import Derived.OpenShut
import Derived.Stop.Joined
import Derived.Stop.LaidErr
import Derived.LaidHandle
import Derived.MakeChecks
import Derived.Below
import Derived.Lib.LaidTab
import Derived.Test.YthhgphokbgpaiabDoorWt
namespace Go.Proofs.YthhgphokbgpaiabDoor
open Go.ChangeShapes Go.WideShapes Go.ChangeAt Go.RowKit

/-- The listed variables. -/
def laid5 : List (String × DataW Unit) := Rows.formsBoundsRow.laid

theorem ownT : ownKnob Tryd.prog.godebug = none := by kernel_rfl
theorem gSyn : Tryd.prog.globalNamed "strconv.ErrSyntax" = some 0 := by kernel_rfl
theorem gRng : Tryd.prog.globalNamed "strconv.ErrRange" = some 1 := by kernel_rfl
theorem tSyn : (Tryd.prog.globals[0]?).map (·.type) = some 76 := by kernel_rfl
theorem tRng : (Tryd.prog.globals[1]?).map (·.type) = some 76 := by kernel_rfl
theorem starT : "*" ++ "errors.errorString" = "*errors.errorString" := by decide
theorem row99 (u : TypeId) (h : Tryd.prog.typeName? 3 u = some "*errors.errorString") : u = 99 :=
  typeName_ptr_named (nm := "errors.errorString") (by rw [starT]; kernel_rfl) (by kernel_rfl) (by decide) u (by rw [starT]; exact h)
theorem c101 : Tryd.prog.cellsOf 101 = 1 := by kernel_rfl
theorem c9 : Tryd.prog.cellsOf 9 = 1 := by kernel_rfl

set_option maxRecDepth 100000 in
theorem errs_of {W : World} (h : laidMetH Tryd.prog laid5 W) : Errs W := by
  rw [MakeChecks.laidMetH_plain _ _ _ (by kernel_rfl)] at h
  have h3 : laidMet Tryd.prog [("strconv.ErrRange", Rows.laid_strconv_ErrRange), ("strconv.ErrSyntax", Rows.laid_strconv_ErrSyntax)] W := h.tail.tail.tail
  obtain ⟨a1, _, hv1, _⟩ := laid_sentinel h3 gRng tRng Tryd.underlying76 row99 Tryd.underlying99 Tryd.underlying101 rfl rfl Tryd.underlying9 c101 c9
  obtain ⟨a0, _, hv0, _⟩ := laid_sentinel h3.tail gSyn tSyn Tryd.underlying76 row99 Tryd.underlying99 Tryd.underlying101 rfl rfl Tryd.underlying9 c101 c9
  refine ⟨.iface 99 (.pointer (some a0)), .iface 99 (.pointer (some a1)), ?_, ?_, Or.inr ⟨99, _, rfl⟩, Or.inr ⟨99, _, rfl⟩⟩
  · simpa using World.var?_cell gSyn hv0 0
  · simpa using World.var?_cell gRng hv1 0

theorem gPow : Tryd.prog.globalNamed "internal/strconv.uint64pow10" = some 2 := by kernel_rfl
theorem tPow : (Tryd.prog.globals[2]?).map (·.type) = some 109 := by kernel_rfl

set_option maxRecDepth 100000 in
theorem tabs_of {W : World} (h : laidMetH Tryd.prog laid5 W) : Tabs W.heap.size W := by
  rw [MakeChecks.laidMetH_plain _ _ _ (by kernel_rfl)] at h
  have h3 : laidMet Tryd.prog (("internal/strconv.uint64pow10", Lib.tabData .u64 Lib.pow10Tab) :: [("strconv.ErrRange", Rows.laid_strconv_ErrRange), ("strconv.ErrSyntax", Rows.laid_strconv_ErrSyntax)]) W := h.tail.tail
  exact Lib.tabBelow_of_tabIs (Lib.tabIs_of_head gPow tPow Tryd.underlying109 Tryd.underlying85 (by kernel_rfl) (by kernel_rfl) h3)

set_option maxRecDepth 100000 in
theorem door_met (os : Os) (args : Array Value) : laidMetH Tryd.prog laid5 ((World.doorLaid Tryd.prog 4000 os).forCall (fun _ _ => 0) ⟨#[], args, []⟩).memory :=
  laidMetH_of_parts3 (fuel := 8) (laidMet_of_run' 8 (by kernel_rfl) (by kernel_rfl)) (by kernel_rfl) (by kernel_rfl)
#print axioms errs_of
#print axioms door_met
end Go.Proofs.YthhgphokbgpaiabDoor
