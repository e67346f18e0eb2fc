/- A part's run; open; value; eval: by what is under way at one less. -/
import Derived.Test.YtjiecahopdaghabDoorNf
namespace Go.Proofs.YtjiecahopdaghabDoor
open Go.RowKit

/-- A call through a function value that has its receiver. -/
theorem stepcv {P : Program} {ops : Array Oper} {o : Oper} {a : Act} {w : World} {K : Act → World → Prop} {Q : Exit → Act → World → Prop} {E : Prop} (hgd : o.guard = none) (k : Nat) (f x : Operand) (ts : Array TypeId)
    (ho : o.op = .call { callee := .value f, args := #[x], argTypes := ts }) (hcf : ∀ vs w, (callFunc k vs).run P w = .ok (.enter k vs) w) (v0 v : Value) (hf : a.eval f = .func (.func k) #[v0] #[]) (hv : a.eval x = v)
    (R : Ending → World → Prop) (h : Calls P k #[v0, v] w R) (hK : ∀ e w', R e w' → ∃ u, e = .returned u ∧ K (a.put o.dst u) w') :
    if Region.wanted o (yielded ops a.tmps) = true then Oper.wp P o a w K Q else E := by
  have hw : Region.wanted o (yielded ops a.tmps) = true := by simp [Region.wanted, hgd]
  rw [if_pos hw]
  unfold Oper.wp
  have hrun : (execOp a.eval o).run P w = .ok (.enter k #[v0, v]) w := by
    simp [execOp, ho, resolve, invoke, hcf, hv, hf, Deferred.ofValue]
  rw [hrun, Oper.upon_enter]
  refine h.mono ?_
  intro e w' hr
  obtain ⟨u, rfl, hk⟩ := hK e w' hr
  exact hk

theorem spend_le {w : World} {X : Nat → Prop} {B mb : Nat} {A : Nat → Nat} {s : St} (i : Inv w X B mb A s) {k : Int} (hk : 0 ≤ k ∧ k ≤ 1000000000) (h : (s.spend k).1 = true) : k ≤ 16777216 := by
  unfold St.spend at h
  simp only [decide_eq_true_eq] at h
  by_cases he : s.err = 0
  · have hf := i.fuel he
    have hw : w64 (s.fuel - k) = s.fuel - k := by unfold w64; rw [IntKind.wrap_i64]; omega
    rw [hw] at h
    by_cases h0 : s.fuel - k < 0
    · rw [if_pos h0] at h
      unfold St.fail at h
      simp [he] at h
    · omega
  · exfalso
    split at h
    · unfold St.fail at h
      simp [he] at h
    · exact he h

theorem spend_get (s : St) (k : Int) (p : Nat) : (s.spend k).2.get p = s.get p ∧ (s.spend k).2.size = s.size := by
  unfold St.spend St.fail St.get
  simp only
  split
  · split <;> exact ⟨rfl, rfl⟩
  · exact ⟨rfl, rfl⟩

/-- What is under way, in memory. -/
structure ExC (go : Go1) : Prop where
  force : ∀ {w : World} {X : Nat → Prop} {B mb : Nat} {A : Nat → Nat} {s : St} {p : Nat} {r : Val × St}, Inv w X B mb A s → p < s.size → go (tForce p) s = some r → Calls Tryd.prog 67 #[pt (A p)] w (ValOut w X B mb A s r)
  eval : ∀ {w : World} {X : Nat → Prop} {B mb : Nat} {A : Nat → Nat} {s : St} {a : Option Addr} {cap b off : Nat} {sc : List Nat} {t : Tr} {r : Val × St}, Inv w X B mb A s → TmP w B b off t → PRow w X mb A s.size a sc cap → go (tEval t sc) s = some r →
    Calls Tryd.prog 73 #[pt mb, .pointer (some ⟨b, off, none⟩), .slice a sc.length cap] w (ValOut w X B mb A s r)
  settle : ∀ {w : World} {X : Nat → Prop} {B mb : Nat} {A : Nat → Nat} {s : St} {vq : Nat} {v : Val} {r : Val × St}, Inv w X B mb A s → ValP w X mb A s.size vq v → go (tSettle v) s = some r → Calls Tryd.prog 79 #[pt mb, pt vq] w (ValOut w X B mb A s r)

theorem ValOut.later {w w1 w' : World} {X : Nat → Prop} {B mb : Nat} {A A1 : Nat → Nat} {s s1 : St} {r : Val × St} {x : Ending} (h : Stp w X B mb A s w1 A1 s1) (g : ValOut w1 X B mb A1 s1 r x w') : ValOut w X B mb A s r x w' := by
  obtain ⟨A', vq, e, g1, g2⟩ := g
  exact ⟨A', vq, e, Stp.trans h g1, g2⟩
theorem Inv.dr {w : World} {X : Nat → Prop} {B mb : Nat} {A : Nat → Nat} {s : St} (i : Inv w X B mb A s) : Stp w X B mb A s w.drew A s := Stp.more i ((Below.refl _ _).drew)

theorem cf69 (args : Array Value) (w : World) : (callFunc 60 args).run Tryd.prog w = .ok (.enter 60 args) w := cf_of Tryd.func60 (by kernel_rfl) (by kernel_rfl) args w
theorem cf88 (args : Array Value) (w : World) : (callFunc 78 args).run Tryd.prog w = .ok (.enter 78 args) w := cf_of Tryd.func78 (by kernel_rfl) (by kernel_rfl) args w

theorem code_any {go : Go1} (hg : ExC go) {w : World} {X : Nat → Prop} {B mb : Nat} {A : Nat → Nat} {s : St} (i : Inv w X B mb A s) {a : Option Addr} {cap b off : Nat} {sc : List Nat} {t : Tr} {r : Val × St} (ht : TmP w B b off t) (hr : PRow w X mb A s.size a sc cap) (he : go (tEval t sc) s = some r) :
    Calls Tryd.prog 60 #[.agg #[pt mb, .pointer (some ⟨b, off, none⟩)], .slice a sc.length cap] w (ValOut w X B mb A s r) := by
  have HS : Hid (Stp w X B mb A s (w.alloc (.cells #[pt mb, .pointer (some ⟨b, off, none⟩)] 108)) A s) := hide (Stp.more i (later_alloc w _))
  have HC := hide (hg.eval HS.out.inv (ht.keep (Stp.keeps i HS.out).low) (hr.keep (Stp.keeps i HS.out)) he)
  clear hg ht hr he i
  go_enter Tryd.func60, Tryd.ntmps60
  go_wp2_with fail
  refine HC.out.mono ?_
  rintro e w2 ⟨A', vq, rfl, h1, h2⟩
  have H1 := hide h1; have H2 := hide h2
  clear h1 h2
  go_wp2_with fail
  go_ret
  exact ⟨A', vq, rfl, Stp.trans HS.out H1.out, H2.out⟩
theorem loop_any {go : Go1} (hg : ExC go) {w : World} {X : Nat → Prop} {B mb : Nat} {A : Nat → Nat} {s : St} (i : Inv w X B mb A s) {x : Value} {vq : Nat} {v : Val} {r : Val × St} (hv : ValP w X mb A s.size vq v) (he : go (tSettle v) s = some r) :
    Calls Tryd.prog 78 #[.agg #[pt mb, pt vq], x] w (ValOut w X B mb A s r) := by
  have HS : Hid (Stp w X B mb A s (w.alloc (.cells #[pt mb, pt vq] 125)) A s) := hide (Stp.more i (later_alloc w _))
  have HC := hide (hg.settle HS.out.inv (hv.keep (Stp.keeps i HS.out)) he)
  clear hg hv he i
  go_enter Tryd.func78, Tryd.ntmps78
  go_wp2_with fail
  refine HC.out.mono ?_
  rintro e w2 ⟨A', vq', rfl, h1, h2⟩
  have H1 := hide h1; have H2 := hide h2
  clear h1 h2
  go_wp2_with fail
  go_ret
  exact ⟨A', vq', rfl, Stp.trans HS.out H1.out, H2.out⟩

/-- A part's run. -/
theorem run_any {go : Go1} (hg : ExC go) {n0 : Nat} {w0 : World} {X : Nat → Prop} {B mb : Nat} {A0 : Nat → Nat} {th : Run} {x : Value} (hx : RunP w0 X B mb A0 n0 th x) :
    ∃ k v0, x = .func (.func k) #[v0] #[] ∧ (∀ vs w, (callFunc k vs).run Tryd.prog w = .ok (.enter k vs) w) ∧ ∀ (w : World) (A : Nat → Nat) (s : St) (a : Option Addr) (cap : Nat) (sc : List Nat) (r : Val × St), Inv w X B mb A s → RunP w X B mb A s.size th x → PRow w X mb A s.size a sc cap → go (th.task sc) s = some r → Calls Tryd.prog k #[v0, .slice a sc.length cap] w (ValOut w X B mb A s r) := by
  cases hl : th.isLoop with
  | true =>
    unfold RunP at hx
    rw [if_pos hl] at hx
    obtain ⟨vq, rfl, _⟩ := hx
    refine ⟨78, _, rfl, cf88, fun w A s a cap sc r i hx' hr he => ?_⟩
    unfold RunP at hx'
    rw [if_pos hl] at hx'
    obtain ⟨vq', e, hv⟩ := hx'
    simp only [Value.func.injEq, Array.mk.injEq, List.cons.injEq, Value.agg.injEq, Value.pointer.injEq, Option.some.injEq, Addr.mk.injEq, and_true, true_and] at e
    subst e
    unfold Run.task at he
    rw [if_pos hl] at he
    exact loop_any hg i hv he
  | false =>
    have hl' : ¬ th.isLoop = true := by rw [hl]; simp
    unfold RunP at hx
    rw [if_neg hl'] at hx
    obtain ⟨b, off, rfl, _⟩ := hx
    refine ⟨60, _, rfl, cf69, fun w A s a cap sc r i hx' hr he => ?_⟩
    unfold RunP at hx'
    rw [if_neg hl'] at hx'
    obtain ⟨b', off', e, ht⟩ := hx'
    simp only [Value.func.injEq, Array.mk.injEq, List.cons.injEq, Value.agg.injEq, Value.pointer.injEq, Option.some.injEq, Addr.mk.injEq, and_true, true_and] at e
    obtain ⟨rfl, rfl⟩ := e
    unfold Run.task at he
    rw [if_neg hl'] at he
    exact code_any hg i ht hr he
#print axioms run_any
end Go.Proofs.YtjiecahopdaghabDoor
