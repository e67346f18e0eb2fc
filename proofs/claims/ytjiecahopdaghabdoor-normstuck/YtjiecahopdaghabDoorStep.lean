/- A call of a function, as one step of a region that draws its order; and that each of these functions has a body. -/
import Derived.Test.YtjiecahopdaghabDoorChecked
import Derived.Test.YtjiecahopdaghabDoorTree
namespace Go.Proofs.YtjiecahopdaghabDoor
open Go.RowKit

theorem step_call1 {P : Program} {ops : Array Oper} {o : Oper} {a : Act} {w : World} {K : Act → World → Prop} {Q : Exit → Act → World → Prop} {E : Prop} (hgd : o.guard = none) (k : Nat) (x : Operand) (ts : Array TypeId)
    (ho : o.op = .call { callee := .value (.func k), args := #[x], argTypes := ts }) (hcf : ∀ vs w, (callFunc k vs).run P w = .ok (.enter k vs) w) (v : Value) (hv : a.eval x = v)
    (R : Ending → World → Prop) (h : Calls P k #[v] w R) (hK : ∀ e w', R e w' → ∃ u, e = .returned u ∧ K (a.put o.dst u) w') :
    if Region.wanted o (yielded ops a.tmps) = true then Oper.wp P o a w K Q else E := by
  have hw : Region.wanted o (yielded ops a.tmps) = true := by simp [Region.wanted, hgd]
  rw [if_pos hw]
  unfold Oper.wp
  have hrun : (execOp a.eval o).run P w = .ok (.enter k #[v]) w := by
    have hf : a.eval (.func k) = .func (.func k) #[] #[] := rfl
    simp [execOp, ho, resolve, invoke, hcf, hv, hf, Deferred.ofValue]
  rw [hrun, Oper.upon_enter]
  refine h.mono ?_
  intro e w' hr
  obtain ⟨u, rfl, hk⟩ := hK e w' hr
  exact hk

theorem cf_of {f : Nat} {fn : Func} (h3 : Tryd.prog.funcs[f]? = some fn) (h : (fn.name == "runtime.NumGoroutine") = false) (h2 : fn.body.isNone = false) (args : Array Value) (w : World) : (callFunc f args).run Tryd.prog w = .ok (.enter f args) w := by
  have h4 : ¬ fn.name = "runtime.NumGoroutine" := fun e => by rw [e] at h; simp at h
  have h5 : ¬ fn.body = none := fun e => by rw [e] at h2; cases h2
  simp [callFunc, h3, h4, h5]

end Go.Proofs.YtjiecahopdaghabDoor
