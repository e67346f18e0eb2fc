/- A call of a function, as one step of a region that draws its order: two and three arguments. -/
import Derived.Test.YtjiecahopdaghabDoorStep
import Derived.Test.YtjiecahopdaghabDoorTb
import Derived.Deep.DeepCutAuto
import Derived.Deep.CutBlock
import Derived.Deep.RegionLaw
import Derived.Deep.RegionHeld3
import Derived.Deep.DrawnRows
import Derived.Deep.AppendLies
namespace Go.Proofs.YtjiecahopdaghabDoor
open Go.RowKit

theorem step_call2 {P : Program} {ops : Array Oper} {o : Oper} {a : Act} {w : World} {K : Act → World → Prop} {Q : Exit → Act → World → Prop} {E : Prop} (hgd : o.guard = none) (k : Nat) (x y : Operand) (ts : Array TypeId)
    (ho : o.op = .call { callee := .value (.func k), args := #[x, y], argTypes := ts }) (hcf : ∀ vs w, (callFunc k vs).run P w = .ok (.enter k vs) w) (v u : Value) (hv : a.eval x = v) (hu : a.eval y = u)
    (R : Ending → World → Prop) (h : Calls P k #[v, u] w R) (hK : ∀ e w', R e w' → ∃ u, e = .returned u ∧ K (a.put o.dst u) w') :
    if Region.wanted o (yielded ops a.tmps) = true then Oper.wp P o a w K Q else E := by
  have hw : Region.wanted o (yielded ops a.tmps) = true := by simp [Region.wanted, hgd]
  rw [if_pos hw]
  unfold Oper.wp
  have hrun : (execOp a.eval o).run P w = .ok (.enter k #[v, u]) w := by
    have hf : a.eval (.func k) = .func (.func k) #[] #[] := rfl
    simp [execOp, ho, resolve, invoke, hcf, hv, hu, hf, Deferred.ofValue]
  rw [hrun, Oper.upon_enter]
  refine h.mono ?_
  intro e w' hr
  obtain ⟨u, rfl, hk⟩ := hK e w' hr
  exact hk


theorem step_call3 {P : Program} {ops : Array Oper} {o : Oper} {a : Act} {w : World} {K : Act → World → Prop} {Q : Exit → Act → World → Prop} {E : Prop} (hgd : o.guard = none) (k : Nat) (x y z : Operand) (ts : Array TypeId)
    (ho : o.op = .call { callee := .value (.func k), args := #[x, y, z], argTypes := ts }) (hcf : ∀ vs w, (callFunc k vs).run P w = .ok (.enter k vs) w) (v u t : Value) (hv : a.eval x = v) (hu : a.eval y = u) (ht : a.eval z = t)
    (R : Ending → World → Prop) (h : Calls P k #[v, u, t] w R) (hK : ∀ e w', R e w' → ∃ u, e = .returned u ∧ K (a.put o.dst u) w') :
    if Region.wanted o (yielded ops a.tmps) = true then Oper.wp P o a w K Q else E := by
  have hw : Region.wanted o (yielded ops a.tmps) = true := by simp [Region.wanted, hgd]
  rw [if_pos hw]
  unfold Oper.wp
  have hrun : (execOp a.eval o).run P w = .ok (.enter k #[v, u, t]) w := by
    have hf : a.eval (.func k) = .func (.func k) #[] #[] := rfl
    simp [execOp, ho, resolve, invoke, hcf, hv, hu, ht, hf, Deferred.ofValue]
  rw [hrun, Oper.upon_enter]
  refine h.mono ?_
  intro e w' hr
  obtain ⟨u, rfl, hk⟩ := hK e w' hr
  exact hk


theorem cfBn (args : Array Value) (w : World) : (callFunc 45 args).run Tryd.prog w = .ok (.enter 45 args) w := cf_of Tryd.func45 (by kernel_rfl) (by kernel_rfl) args w

end Go.Proofs.YtjiecahopdaghabDoor
