/- Calls, frames, regions in their order. -/
import Derived.Test.YthklnpkjlepagaaGreatDoorQi
namespace Go.Proofs.YthklnpkjlepagaaGreatDoor.Ab
open Go.RowKit
variable {S : Nat → Value}

abbrev R := Except Nat
def orErr {α : Type} (e : Nat) : Option α → R α
  | some a => .ok a
  | none => .error e
theorem orErr_ok {α : Type} {e : Nat} {x : Option α} {a : α} (h : orErr e x = .ok a) : x = some a := by
  cases x <;> simp [orErr] at h
  rw [h]
def bindR {α β : Type} (x : R α) (f : α → R β) : R β := match x with
  | .ok a => f a
  | .error e => .error e
theorem bindR_ok {α β : Type} {x : R α} {f : α → R β} {b : β} (h : bindR x f = .ok b) : ∃ a, x = .ok a ∧ f a = .ok b := by
  cases x with
  | ok a => exact ⟨a, rfl, h⟩
  | error e => simp [bindR] at h

/-- What a call of a function comes to, by its number, its arguments, blocks, how many numbers. -/
abbrev CallA := Nat → List AV → Hp → Nat → R Out

/-- What is to be shown of it. -/
def CallOk (P : Program) (T : Tabs) (S : Nat → Value) (call : CallA) : Prop := ∀ g args H n out, call g args H n = .ok out → Tidy H n out ∧ ∀ (C : Cx) (vs : Array Value), C.H = H → HB H n → FreeA C n out.n → Ok C → GOk T S C → RL C args vs.toList →
  Calls P g vs C.w (fun e w' => ∃ v C', e = .returned v ∧ C'.w = w' ∧ RV C' out.x v ∧ Goes C C' ∧ C'.H = out.H ∧ NewA C C' n out.n)

/-- The function that is called, with all its arguments. -/
def fnOf (x : AV) (args : List AV) : Option (Nat × List AV) :=
  if x.t = 0 then (match x.v with
    | .func (.func g) ⟨[]⟩ ⟨[]⟩ => some (g, args)
    | _ => none)
  else if x.t = 9 then (match x.v with
    | .func (.func g) _ _ => some (g, x.ks.take x.a ++ args ++ x.ks.drop x.a)
    | _ => none)
  else none
theorem fnOf_ok {C : Cx} {x : AV} {v : Value} (h : RV C x v) {args args' : List AV} {g : Nat} (e : fnOf x args = some (g, args')) {us : Array Value} (ha : RL C args us.toList) : ∃ first cap, v = .func (.func g) first cap ∧ RL C args' (first ++ us ++ cap).toList := by
  unfold fnOf at e
  split at e
  · rename_i h0
    split at e
    · rename_i g' hv
      cases e
      exact ⟨#[], #[], by rw [h.case.1 h0, hv], by simpa using ha⟩
    · cases e
  · split at e
    · rename_i h9
      split at e
      · rename_i g' f0 c0 hv
        cases e
        obtain ⟨gg, first, cap, r1, r2, r3, r4⟩ := h.case.2.2.2.2.2.2.2.2.2.1 h9
        rw [hv] at r1
        cases r1
        refine ⟨first, cap, r2, ?_⟩
        have := All2.app (All2.app r3 ha) r4
        simpa [RL] using this
      · cases e
    · cases e

def calleeOf (T : Tabs) (fr : Fr) (o : Oper) : Option (Option (Nat × List AV)) := match o.op with
  | .call c => match c.callee with
    | .value f => some (fnOf (evO T fr f) (c.args.toList.map (evO T fr)))
    | _ => none
  | _ => none

/-- An operation. -/
def opA (P : Program) (T : Tabs) (call : CallA) (loc : Nat) (H : Hp) (n : Nat) (fr : Fr) (o : Oper) : R Out := match calleeOf T fr o with
  | some x => bindR (orErr (loc + 500) x) fun p => call p.1 p.2 H n
  | none => orErr loc (sop P T H n fr o)

/-- No function of the program bears a name that the machine knows. -/
def noNum (P : Program) : Bool := P.funcs.toList.all fun fn => !(fn.name == "runtime.NumGoroutine")
theorem noNum_ok {P : Program} (h : noNum P = true) {f : Nat} {fn : Func} (hf : P.funcs[f]? = some fn) : fn.name ≠ "runtime.NumGoroutine" := by
  have hm : fn ∈ P.funcs.toList := by
    rw [← Array.getElem?_toList] at hf
    exact List.mem_of_getElem? hf
  have := List.all_eq_true.1 h fn hm
  intro e
  rw [e] at this
  simp at this

theorem run_enter {P : Program} (hN : noNum P = true) {f : Nat} {fn : Func} {c : Code} (hf : P.funcs[f]? = some fn) (hb : fn.body = some c) (args : Array Value) (w : World) : (callFunc f args).run P w = .ok (.enter f args) w := by
  have h1 := noNum_ok hN hf
  simp [callFunc, hf, h1, hb]

/-- A call's function has a body. -/
def hasBody (P : Program) (g : Nat) : Bool := match P.funcs[g]? with
  | some fn => fn.body.isSome
  | none => false

theorem opA_ok {P : Program} {T : Tabs} (hT : TabOk P T) (hz : zeroB T = true) (hNum : noNum P = true) {call : CallA} (hcall : CallOk P T S call) (hbody : ∀ g args H n out, call g args H n = .ok out → hasBody P g = true) {loc : Nat} {H : Hp} {n : Nat} {N : Nat} {fr : Fr} {o : Oper} {out : Out} (e : opA P T call loc H n fr o = .ok out) :
    Tidy H n out ∧ ∀ (C : Cx) (a : Act), C.H = H → HB H n → FreeA C n out.n → Ok C → GOk T S C → RF C N fr a → OpOk P C n a o out := by
  unfold opA at e
  split at e
  · rename_i x hx
    obtain ⟨p, h1, h2⟩ := bindR_ok e
    have h1 := orErr_ok h1
    subst h1
    obtain ⟨t1, t2⟩ := hcall _ _ _ _ _ h2
    refine ⟨t1, fun C a hH hB hF hC hG hf => ?_⟩
    unfold calleeOf at hx
    split at hx
    · rename_i c ho
      split at hx
      · rename_i f hc
        simp only [Option.some.injEq] at hx
        have hargs : RL C (c.args.toList.map (evO T fr)) (c.args.map a.eval).toList := by
          have := rl_ops hG hf c.args.toList
          simpa using this
        obtain ⟨first, cap, hv, hr⟩ := fnOf_ok (rv_op hG hf f) (g := p.1) (args' := p.2) hx hargs
        have hb := hbody _ _ _ _ _ h2
        unfold hasBody at hb
        split at hb
        · rename_i fn hfn
          obtain ⟨cd, hcd⟩ := Option.isSome_iff_exists.1 hb
          intro K Q hK
          unfold Oper.wp
          have hrun : (execOp a.eval o).run P C.w = .ok (.enter p.1 (first ++ c.args.map a.eval ++ cap)) C.w := by
            have h9 := run_enter hNum hfn hcd (first ++ c.args.map a.eval ++ cap) C.w
            simp only [Array.append_assoc] at h9 ⊢
            simp [execOp, ho, resolve, hc, hv, Deferred.ofValue, invoke, h9]
          rw [hrun, Oper.upon_enter]
          refine (t2 C _ hH hB hF hC hG hr).mono ?_
          rintro e w' ⟨v, C', rfl, rfl, k1, k2, k3, k4⟩
          exact hK v C' k1 k2 k3 k4
        · cases hb
      · cases hx
    · cases hx
  · have h1 := orErr_ok e
    refine ⟨sop_tidy h1, fun C a hH hB hF hC hG hf => ?_⟩
    subst hH
    exact sop_ok hT hz hC hG hf h1 hF

/-- Is a value the truth that is wanted? One that was not reckoned is none. -/
def wantV (want : Bool) (x : AV) : Option Bool := if x.t = 0 then some (match x.v with
  | .bool b => b == want
  | _ => false) else none
def truthOf (v : Value) : Option Bool := match v with
  | .bool c => some c
  | _ => none
theorem wantV_ok {C : Cx} {x : AV} {v : Value} {want b : Bool} (h : RV C x v) (e : wantV want x = some b) : (truthOf v == some want) = b := by
  unfold wantV at e
  split at e
  · rename_i h0
    have hv := h.case.1 h0
    rw [hv]
    cases e
    cases x.v with
    | bool c => cases c <;> cases want <;> rfl
    | _ => cases want <;> rfl
  · cases e
/-- Is an operation to be done? (None: it is not known.) -/
def wantedA (ops : Array Oper) (fr : Fr) (o : Oper) : Option Bool := match o.guard with
  | none => some true
  | some (j, want) => match ops[j]? with
    | some oj => match oj.dst with
      | some d => wantV want (fr.get d)
      | none => none
    | none => none
theorem wantedA_ok {ops : Array Oper} {C : Cx} {N : Nat} {fr : Fr} {a : Act} (hf : RF C N fr a) {o : Oper} {b : Bool} (h : wantedA ops fr o = some b) : Region.wanted o (yielded ops a.tmps) = b := by
  unfold wantedA at h
  unfold Region.wanted
  split at h
  · rename_i hg
    rw [hg]
    simpa using h
  · rename_i j want hg
    rw [hg]
    split at h
    · rename_i oj hoj
      split at h
      · rename_i d hd
        have := wantV_ok (hf.at_ d) h
        rw [Array.getD_eq_getD_getElem?] at this
        simp only [yielded, hoj, Option.bind_some, hd]
        rw [← this]
        cases a.tmps[d]? with
        | none => cases want <;> rfl
        | some v => cases v <;> rfl
      · cases h
    · cases h

/-- The state while code runs: the frame, blocks, how many numbers, the numbers of old blocks that were written. -/
structure Sta where
  fr : Fr
  H : Hp
  n : Nat
  wr : Nat

/-- Operations one behind the other. -/
def ordA (P : Program) (T : Tabs) (call : CallA) (N loc : Nat) (ops : Array Oper) : List Oper → Nat → Sta → R Sta
  | [], _, s => .ok s
  | o :: os, i, s => bindR (orErr (loc + i) (wantedA ops s.fr o)) fun b => if b then bindR (opA P T call (loc + i) s.H s.n s.fr o) fun out => ordA P T call N loc ops os (i + 1) ⟨putA N s.fr o.dst out.x, out.H, out.n, out.wr ||| s.wr⟩
      else ordA P T call N loc ops os (i + 1) ⟨putA N s.fr o.dst (AV.ex undef), s.H, s.n, s.wr⟩

/-- What blocks may have turned between two states. -/
structure Tid (s s' : Sta) : Prop where
  le : s.n ≤ s'.n
  bnd : HB s.H s.n → HB s'.H s'.n
  wr : ∀ b, s.wr.testBit b = true → s'.wr.testBit b = true
  keep : HB s.H s.n → ∀ b, b < s.n → s'.wr.testBit b = false → s'.H.get b = s.H.get b
  had : HB s.H s.n → ∀ b, s'.wr.testBit b = true → s.wr.testBit b = true ∨ s.n ≤ b ∨ ∃ B, s.H.get b = some B

theorem Tid.refl (s : Sta) : Tid s s := ⟨Nat.le_refl _, fun h => h, fun _ h => h, fun _ _ _ _ => rfl, fun _ _ h => Or.inl h⟩
theorem Tid.frame {s : Sta} {fr : Fr} : Tid s ⟨fr, s.H, s.n, s.wr⟩ := ⟨Nat.le_refl _, fun h => h, fun _ h => h, fun _ _ _ _ => rfl, fun _ _ h => Or.inl h⟩
theorem Tid.trans {a b c : Sta} (h : Tid a b) (g : Tid b c) : Tid a c where
  le := Nat.le_trans h.le g.le
  bnd hb := g.bnd (h.bnd hb)
  wr x hx := g.wr x (h.wr x hx)
  keep hb x hx hn := (g.keep (h.bnd hb) x (Nat.lt_of_lt_of_le hx h.le) hn).trans (h.keep hb x hx (by
    cases e : b.wr.testBit x with
    | false => rfl
    | true => rw [g.wr x e] at hn; cases hn))
  had hb x hx := by
    rcases g.had (h.bnd hb) x hx with h1 | h1 | ⟨B, h1⟩
    · exact h.had hb x h1
    · exact Or.inr (Or.inl (Nat.le_trans h.le h1))
    · by_cases hlt : x < a.n
      · cases hw : b.wr.testBit x with
        | true => exact h.had hb x hw
        | false => exact Or.inr (Or.inr ⟨B, (h.keep hb x hlt hw).symm.trans h1⟩)
      · exact Or.inr (Or.inl (by omega))
theorem Tidy.tid {s : Sta} {o : Out} {fr : Fr} (h : Tidy s.H s.n o) : Tid s ⟨fr, o.H, o.n, o.wr ||| s.wr⟩ where
  le := h.le
  bnd := h.bnd
  wr b hb := by rw [Nat.testBit_or, hb, Bool.or_true]
  keep hB b hb hn := h.keep hB b hb (by
    have hn : (o.wr ||| s.wr).testBit b = false := hn
    rw [Nat.testBit_or, Bool.or_eq_false_iff] at hn
    exact hn.1)
  had hB b hb := by
    have hb : (o.wr ||| s.wr).testBit b = true := hb
    rw [Nat.testBit_or, Bool.or_eq_true] at hb
    rcases hb with h1 | h1
    · by_cases hlt : b < s.n
      · exact Or.inr (Or.inr (h.had hB b h1 hlt))
      · exact Or.inr (Or.inl (by omega))
    · exact Or.inl h1

/-- The true state. -/
structure StaOk (ds : List Deferred) (C : Cx) (N : Nat) (s : Sta) (a : Act) : Prop where
  H : C.H = s.H
  ok : Ok C
  fr : RF C N s.fr a
  df : a.defers = ds
  bnd : HB s.H s.n

theorem put_defers (a : Act) (d : Option Nat) (v : Value) : (a.put d v).defers = a.defers := by cases d <;> rfl

theorem ordA_ok {P : Program} {T : Tabs} (hT : TabOk P T) (hz : zeroB T = true) (hNum : noNum P = true) {call : CallA} (hcall : CallOk P T S call) (hbody : ∀ g args H n out, call g args H n = .ok out → hasBody P g = true) {N loc : Nat} {ops : Array Oper} :
    ∀ (os : List Oper) (i : Nat) (s s' : Sta), ordA P T call N loc ops os i s = .ok s' → Tid s s' ∧ ∀ {ds : List Deferred} (Q : Exit → Act → World → Prop) (C : Cx) (a : Act), StaOk ds C N s a → GOk T S C → FreeA C s.n s'.n →
      (∀ C' a', StaOk ds C' N s' a' → Goes C C' → NewA C C' s.n s'.n → Q .normal a' C'.w) → wpList P ops Q os a C.w
  | [], _, s, s', h => by
    simp only [ordA, Except.ok.injEq] at h
    subst h
    exact ⟨Tid.refl s, fun Q C a hs hG hF hQ => hQ C a hs (Goes.refl hs.ok) (newA_same rfl)⟩
  | o :: os, i, s, s', h => by
    simp only [ordA] at h
    obtain ⟨b, h1, h⟩ := bindR_ok h
    have h1 := orErr_ok h1
    cases b with
    | true =>
      simp only [if_true] at h
      obtain ⟨out, h2, h⟩ := bindR_ok h
      obtain ⟨t1, t2⟩ := opA_ok hT hz hNum hcall hbody h2
      obtain ⟨t3, t4⟩ := ordA_ok hT hz hNum hcall hbody os (i + 1) _ s' h
      refine ⟨Tid.trans (Tidy.tid t1) t3, fun Q C a hs hG hF hQ => ?_⟩
      simp only [wpList]
      rw [if_pos (wantedA_ok hs.fr h1)]
      refine Or.inl (t2 C a hs.H hs.bnd (fun b h1 h2 => hF b h1 (Nat.lt_of_lt_of_le h2 t3.le)) hs.ok hG hs.fr _ _ ?_)
      intro v C' k1 k2 k3 k4
      refine t4 Q C' _ ⟨k3, k2.ok, rf_put (RF.mono k2.le hs.fr) _ k1, (put_defers a _ _).trans hs.df, t1.bnd hs.bnd⟩ (hG.mono k2.le) (fun b h1 h2 h3 => ?_) (fun C2 a2 m1 m2 m3 => hQ C2 a2 m1 (k2.trans m2) (fun b hb => ?_))
      · rcases k4 b h3 with h4 | h4
        · exact hF b (Nat.le_trans t1.le h1) h2 h4
        · have h1 : out.n ≤ b := h1
          omega
      · have e1 : out.n ≤ s'.n := t3.le
        have e2 : s.n ≤ out.n := t1.le
        rcases m3 b hb with h | h
        · rcases k4 b h with h | h
          · exact Or.inl h
          · exact Or.inr (by omega)
        · have h : out.n ≤ b ∧ b < s'.n := h
          exact Or.inr (by omega)
    | false =>
      simp only [Bool.false_eq_true, if_false] at h
      obtain ⟨t3, t4⟩ := ordA_ok hT hz hNum hcall hbody os (i + 1) _ s' h
      refine ⟨Tid.trans (Tid.frame) t3, fun Q C a hs hG hF hQ => ?_⟩
      simp only [wpList]
      have hw := wantedA_ok hs.fr h1
      rw [if_neg (by rw [hw]; exact Bool.false_ne_true)]
      exact t4 Q C _ ⟨hs.H, hs.ok, rf_put hs.fr _ rv_ex, (put_defers a _ _).trans hs.df, hs.bnd⟩ hG hF hQ
#print axioms ordA_ok
end Go.Proofs.YthklnpkjlepagaaGreatDoor.Ab
