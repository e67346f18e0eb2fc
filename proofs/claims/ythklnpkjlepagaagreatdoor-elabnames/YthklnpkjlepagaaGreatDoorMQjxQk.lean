/- Qj, Qreg, Qk: the texts of these names, one behind the other. -/
import Derived.Test.YthklnpkjlepagaaGreatDoorQi
namespace Go.Proofs.YthklnpkjlepagaaGreatDoor.Ab
open Go.RowKit
variable {S : Nat → Value}

abbrev R := Except Nat
def orErr {α : Type} (e : Nat) : Option α → R α
  | some a => .ok a
  | none => .error e
theorem orErr_ok {α : Type} {e : Nat} {x : Option α} {a : α} (h : orErr e x = .ok a) : x = some a := by
  cases x <;> simp [orErr] at h
  rw [h]
def bindR {α β : Type} (x : R α) (f : α → R β) : R β := match x with
  | .ok a => f a
  | .error e => .error e
theorem bindR_ok {α β : Type} {x : R α} {f : α → R β} {b : β} (h : bindR x f = .ok b) : ∃ a, x = .ok a ∧ f a = .ok b := by
  cases x with
  | ok a => exact ⟨a, rfl, h⟩
  | error e => simp [bindR] at h

/-- What a call of a function comes to, by its number, its arguments, blocks, how many numbers. -/
abbrev CallA := Nat → List AV → Hp → Nat → R Out

/-- What is to be shown of it. -/
def CallOk (P : Program) (T : Tabs) (S : Nat → Value) (call : CallA) : Prop := ∀ g args H n out, call g args H n = .ok out → Tidy H n out ∧ ∀ (C : Cx) (vs : Array Value), C.H = H → HB H n → FreeA C n out.n → Ok C → GOk T S C → RL C args vs.toList →
  Calls P g vs C.w (fun e w' => ∃ v C', e = .returned v ∧ C'.w = w' ∧ RV C' out.x v ∧ Goes C C' ∧ C'.H = out.H ∧ NewA C C' n out.n)

/-- The function that is called, with all its arguments. -/
def fnOf (x : AV) (args : List AV) : Option (Nat × List AV) :=
  if x.t = 0 then (match x.v with
    | .func (.func g) ⟨[]⟩ ⟨[]⟩ => some (g, args)
    | _ => none)
  else if x.t = 9 then (match x.v with
    | .func (.func g) _ _ => some (g, x.ks.take x.a ++ args ++ x.ks.drop x.a)
    | _ => none)
  else none
theorem fnOf_ok {C : Cx} {x : AV} {v : Value} (h : RV C x v) {args args' : List AV} {g : Nat} (e : fnOf x args = some (g, args')) {us : Array Value} (ha : RL C args us.toList) : ∃ first cap, v = .func (.func g) first cap ∧ RL C args' (first ++ us ++ cap).toList := by
  unfold fnOf at e
  split at e
  · rename_i h0
    split at e
    · rename_i g' hv
      cases e
      exact ⟨#[], #[], by rw [h.case.1 h0, hv], by simpa using ha⟩
    · cases e
  · split at e
    · rename_i h9
      split at e
      · rename_i g' f0 c0 hv
        cases e
        obtain ⟨gg, first, cap, r1, r2, r3, r4⟩ := h.case.2.2.2.2.2.2.2.2.2.1 h9
        rw [hv] at r1
        cases r1
        refine ⟨first, cap, r2, ?_⟩
        have := All2.app (All2.app r3 ha) r4
        simpa [RL] using this
      · cases e
    · cases e

def calleeOf (T : Tabs) (fr : Fr) (o : Oper) : Option (Option (Nat × List AV)) := match o.op with
  | .call c => match c.callee with
    | .value f => some (fnOf (evO T fr f) (c.args.toList.map (evO T fr)))
    | _ => none
  | _ => none

/-- An operation. -/
def opA (P : Program) (T : Tabs) (call : CallA) (loc : Nat) (H : Hp) (n : Nat) (fr : Fr) (o : Oper) : R Out := match calleeOf T fr o with
  | some x => bindR (orErr (loc + 500) x) fun p => call p.1 p.2 H n
  | none => orErr loc (sop P T H n fr o)

/-- No function of the program bears a name that the machine knows. -/
def noNum (P : Program) : Bool := P.funcs.toList.all fun fn => !(fn.name == "runtime.NumGoroutine")
theorem noNum_ok {P : Program} (h : noNum P = true) {f : Nat} {fn : Func} (hf : P.funcs[f]? = some fn) : fn.name ≠ "runtime.NumGoroutine" := by
  have hm : fn ∈ P.funcs.toList := by
    rw [← Array.getElem?_toList] at hf
    exact List.mem_of_getElem? hf
  have := List.all_eq_true.1 h fn hm
  intro e
  rw [e] at this
  simp at this

theorem run_enter {P : Program} (hN : noNum P = true) {f : Nat} {fn : Func} {c : Code} (hf : P.funcs[f]? = some fn) (hb : fn.body = some c) (args : Array Value) (w : World) : (callFunc f args).run P w = .ok (.enter f args) w := by
  have h1 := noNum_ok hN hf
  simp [callFunc, hf, h1, hb]

/-- A call's function has a body. -/
def hasBody (P : Program) (g : Nat) : Bool := match P.funcs[g]? with
  | some fn => fn.body.isSome
  | none => false

theorem opA_ok {P : Program} {T : Tabs} (hT : TabOk P T) (hz : zeroB T = true) (hNum : noNum P = true) {call : CallA} (hcall : CallOk P T S call) (hbody : ∀ g args H n out, call g args H n = .ok out → hasBody P g = true) {loc : Nat} {H : Hp} {n : Nat} {N : Nat} {fr : Fr} {o : Oper} {out : Out} (e : opA P T call loc H n fr o = .ok out) :
    Tidy H n out ∧ ∀ (C : Cx) (a : Act), C.H = H → HB H n → FreeA C n out.n → Ok C → GOk T S C → RF C N fr a → OpOk P C n a o out := by
  unfold opA at e
  split at e
  · rename_i x hx
    obtain ⟨p, h1, h2⟩ := bindR_ok e
    have h1 := orErr_ok h1
    subst h1
    obtain ⟨t1, t2⟩ := hcall _ _ _ _ _ h2
    refine ⟨t1, fun C a hH hB hF hC hG hf => ?_⟩
    unfold calleeOf at hx
    split at hx
    · rename_i c ho
      split at hx
      · rename_i f hc
        simp only [Option.some.injEq] at hx
        have hargs : RL C (c.args.toList.map (evO T fr)) (c.args.map a.eval).toList := by
          have := rl_ops hG hf c.args.toList
          simpa using this
        obtain ⟨first, cap, hv, hr⟩ := fnOf_ok (rv_op hG hf f) (g := p.1) (args' := p.2) hx hargs
        have hb := hbody _ _ _ _ _ h2
        unfold hasBody at hb
        split at hb
        · rename_i fn hfn
          obtain ⟨cd, hcd⟩ := Option.isSome_iff_exists.1 hb
          intro K Q hK
          unfold Oper.wp
          have hrun : (execOp a.eval o).run P C.w = .ok (.enter p.1 (first ++ c.args.map a.eval ++ cap)) C.w := by
            have h9 := run_enter hNum hfn hcd (first ++ c.args.map a.eval ++ cap) C.w
            simp only [Array.append_assoc] at h9 ⊢
            simp [execOp, ho, resolve, hc, hv, Deferred.ofValue, invoke, h9]
          rw [hrun, Oper.upon_enter]
          refine (t2 C _ hH hB hF hC hG hr).mono ?_
          rintro e w' ⟨v, C', rfl, rfl, k1, k2, k3, k4⟩
          exact hK v C' k1 k2 k3 k4
        · cases hb
      · cases hx
    · cases hx
  · have h1 := orErr_ok e
    refine ⟨sop_tidy h1, fun C a hH hB hF hC hG hf => ?_⟩
    subst hH
    exact sop_ok hT hz hC hG hf h1 hF

/-- Is a value the truth that is wanted? One that was not reckoned is none. -/
def wantV (want : Bool) (x : AV) : Option Bool := if x.t = 0 then some (match x.v with
  | .bool b => b == want
  | _ => false) else none
def truthOf (v : Value) : Option Bool := match v with
  | .bool c => some c
  | _ => none
theorem wantV_ok {C : Cx} {x : AV} {v : Value} {want b : Bool} (h : RV C x v) (e : wantV want x = some b) : (truthOf v == some want) = b := by
  unfold wantV at e
  split at e
  · rename_i h0
    have hv := h.case.1 h0
    rw [hv]
    cases e
    cases x.v with
    | bool c => cases c <;> cases want <;> rfl
    | _ => cases want <;> rfl
  · cases e
/-- Is an operation to be done? (None: it is not known.) -/
def wantedA (ops : Array Oper) (fr : Fr) (o : Oper) : Option Bool := match o.guard with
  | none => some true
  | some (j, want) => match ops[j]? with
    | some oj => match oj.dst with
      | some d => wantV want (fr.get d)
      | none => none
    | none => none
theorem wantedA_ok {ops : Array Oper} {C : Cx} {N : Nat} {fr : Fr} {a : Act} (hf : RF C N fr a) {o : Oper} {b : Bool} (h : wantedA ops fr o = some b) : Region.wanted o (yielded ops a.tmps) = b := by
  unfold wantedA at h
  unfold Region.wanted
  split at h
  · rename_i hg
    rw [hg]
    simpa using h
  · rename_i j want hg
    rw [hg]
    split at h
    · rename_i oj hoj
      split at h
      · rename_i d hd
        have := wantV_ok (hf.at_ d) h
        rw [Array.getD_eq_getD_getElem?] at this
        simp only [yielded, hoj, Option.bind_some, hd]
        rw [← this]
        cases a.tmps[d]? with
        | none => cases want <;> rfl
        | some v => cases v <;> rfl
      · cases h
    · cases h

/-- The state while code runs: the frame, blocks, how many numbers, the numbers of old blocks that were written. -/
structure Sta where
  fr : Fr
  H : Hp
  n : Nat
  wr : Nat

/-- Operations one behind the other. -/
def ordA (P : Program) (T : Tabs) (call : CallA) (N loc : Nat) (ops : Array Oper) : List Oper → Nat → Sta → R Sta
  | [], _, s => .ok s
  | o :: os, i, s => bindR (orErr (loc + i) (wantedA ops s.fr o)) fun b => if b then bindR (opA P T call (loc + i) s.H s.n s.fr o) fun out => ordA P T call N loc ops os (i + 1) ⟨putA N s.fr o.dst out.x, out.H, out.n, out.wr ||| s.wr⟩
      else ordA P T call N loc ops os (i + 1) ⟨putA N s.fr o.dst (AV.ex undef), s.H, s.n, s.wr⟩

/-- What blocks may have turned between two states. -/
structure Tid (s s' : Sta) : Prop where
  le : s.n ≤ s'.n
  bnd : HB s.H s.n → HB s'.H s'.n
  wr : ∀ b, s.wr.testBit b = true → s'.wr.testBit b = true
  keep : HB s.H s.n → ∀ b, b < s.n → s'.wr.testBit b = false → s'.H.get b = s.H.get b
  had : HB s.H s.n → ∀ b, s'.wr.testBit b = true → s.wr.testBit b = true ∨ s.n ≤ b ∨ ∃ B, s.H.get b = some B

theorem Tid.refl (s : Sta) : Tid s s := ⟨Nat.le_refl _, fun h => h, fun _ h => h, fun _ _ _ _ => rfl, fun _ _ h => Or.inl h⟩
theorem Tid.frame {s : Sta} {fr : Fr} : Tid s ⟨fr, s.H, s.n, s.wr⟩ := ⟨Nat.le_refl _, fun h => h, fun _ h => h, fun _ _ _ _ => rfl, fun _ _ h => Or.inl h⟩
theorem Tid.trans {a b c : Sta} (h : Tid a b) (g : Tid b c) : Tid a c where
  le := Nat.le_trans h.le g.le
  bnd hb := g.bnd (h.bnd hb)
  wr x hx := g.wr x (h.wr x hx)
  keep hb x hx hn := (g.keep (h.bnd hb) x (Nat.lt_of_lt_of_le hx h.le) hn).trans (h.keep hb x hx (by
    cases e : b.wr.testBit x with
    | false => rfl
    | true => rw [g.wr x e] at hn; cases hn))
  had hb x hx := by
    rcases g.had (h.bnd hb) x hx with h1 | h1 | ⟨B, h1⟩
    · exact h.had hb x h1
    · exact Or.inr (Or.inl (Nat.le_trans h.le h1))
    · by_cases hlt : x < a.n
      · cases hw : b.wr.testBit x with
        | true => exact h.had hb x hw
        | false => exact Or.inr (Or.inr ⟨B, (h.keep hb x hlt hw).symm.trans h1⟩)
      · exact Or.inr (Or.inl (by omega))
theorem Tidy.tid {s : Sta} {o : Out} {fr : Fr} (h : Tidy s.H s.n o) : Tid s ⟨fr, o.H, o.n, o.wr ||| s.wr⟩ where
  le := h.le
  bnd := h.bnd
  wr b hb := by rw [Nat.testBit_or, hb, Bool.or_true]
  keep hB b hb hn := h.keep hB b hb (by
    have hn : (o.wr ||| s.wr).testBit b = false := hn
    rw [Nat.testBit_or, Bool.or_eq_false_iff] at hn
    exact hn.1)
  had hB b hb := by
    have hb : (o.wr ||| s.wr).testBit b = true := hb
    rw [Nat.testBit_or, Bool.or_eq_true] at hb
    rcases hb with h1 | h1
    · by_cases hlt : b < s.n
      · exact Or.inr (Or.inr (h.had hB b h1 hlt))
      · exact Or.inr (Or.inl (by omega))
    · exact Or.inl h1

/-- The true state. -/
structure StaOk (ds : List Deferred) (C : Cx) (N : Nat) (s : Sta) (a : Act) : Prop where
  H : C.H = s.H
  ok : Ok C
  fr : RF C N s.fr a
  df : a.defers = ds
  bnd : HB s.H s.n

theorem put_defers (a : Act) (d : Option Nat) (v : Value) : (a.put d v).defers = a.defers := by cases d <;> rfl

theorem ordA_ok {P : Program} {T : Tabs} (hT : TabOk P T) (hz : zeroB T = true) (hNum : noNum P = true) {call : CallA} (hcall : CallOk P T S call) (hbody : ∀ g args H n out, call g args H n = .ok out → hasBody P g = true) {N loc : Nat} {ops : Array Oper} :
    ∀ (os : List Oper) (i : Nat) (s s' : Sta), ordA P T call N loc ops os i s = .ok s' → Tid s s' ∧ ∀ {ds : List Deferred} (Q : Exit → Act → World → Prop) (C : Cx) (a : Act), StaOk ds C N s a → GOk T S C → FreeA C s.n s'.n →
      (∀ C' a', StaOk ds C' N s' a' → Goes C C' → NewA C C' s.n s'.n → Q .normal a' C'.w) → wpList P ops Q os a C.w
  | [], _, s, s', h => by
    simp only [ordA, Except.ok.injEq] at h
    subst h
    exact ⟨Tid.refl s, fun Q C a hs hG hF hQ => hQ C a hs (Goes.refl hs.ok) (newA_same rfl)⟩
  | o :: os, i, s, s', h => by
    simp only [ordA] at h
    obtain ⟨b, h1, h⟩ := bindR_ok h
    have h1 := orErr_ok h1
    cases b with
    | true =>
      simp only [if_true] at h
      obtain ⟨out, h2, h⟩ := bindR_ok h
      obtain ⟨t1, t2⟩ := opA_ok hT hz hNum hcall hbody h2
      obtain ⟨t3, t4⟩ := ordA_ok hT hz hNum hcall hbody os (i + 1) _ s' h
      refine ⟨Tid.trans (Tidy.tid t1) t3, fun Q C a hs hG hF hQ => ?_⟩
      simp only [wpList]
      rw [if_pos (wantedA_ok hs.fr h1)]
      refine Or.inl (t2 C a hs.H hs.bnd (fun b h1 h2 => hF b h1 (Nat.lt_of_lt_of_le h2 t3.le)) hs.ok hG hs.fr _ _ ?_)
      intro v C' k1 k2 k3 k4
      refine t4 Q C' _ ⟨k3, k2.ok, rf_put (RF.mono k2.le hs.fr) _ k1, (put_defers a _ _).trans hs.df, t1.bnd hs.bnd⟩ (hG.mono k2.le) (fun b h1 h2 h3 => ?_) (fun C2 a2 m1 m2 m3 => hQ C2 a2 m1 (k2.trans m2) (fun b hb => ?_))
      · rcases k4 b h3 with h4 | h4
        · exact hF b (Nat.le_trans t1.le h1) h2 h4
        · have h1 : out.n ≤ b := h1
          omega
      · have e1 : out.n ≤ s'.n := t3.le
        have e2 : s.n ≤ out.n := t1.le
        rcases m3 b hb with h | h
        · rcases k4 b h with h | h
          · exact Or.inl h
          · exact Or.inr (by omega)
        · have h : out.n ≤ b ∧ b < s'.n := h
          exact Or.inr (by omega)
    | false =>
      simp only [Bool.false_eq_true, if_false] at h
      obtain ⟨t3, t4⟩ := ordA_ok hT hz hNum hcall hbody os (i + 1) _ s' h
      refine ⟨Tid.trans (Tid.frame) t3, fun Q C a hs hG hF hQ => ?_⟩
      simp only [wpList]
      have hw := wantedA_ok hs.fr h1
      rw [if_neg (by rw [hw]; exact Bool.false_ne_true)]
      exact t4 Q C _ ⟨hs.H, hs.ok, rf_put hs.fr _ rv_ex, (put_defers a _ _).trans hs.df, hs.bnd⟩ hG hF hQ
end Go.Proofs.YthklnpkjlepagaaGreatDoor.Ab
namespace Go.Proofs.YthklnpkjlepagaaGreatDoor.Ab
open Go.RowKit

def upd (L : Nat → Bool) (i : Nat) : Nat → Bool := fun j => if j = i then true else L j

/-- Of each operation of a list, with its number. -/
def AllOps (p : Nat → Oper → Prop) : Nat → List Oper → Prop
  | _, [] => True
  | n, o :: r => p n o ∧ AllOps p (n + 1) r

theorem AllOps.get {p : Nat → Oper → Prop} (l : List Oper) : ∀ (n i : Nat) (o : Oper), AllOps p n l → l[i]? = some o → p (n + i) o := by
  induction l with
  | nil => intro n i o _ hi; cases hi
  | cons o' r ih =>
    intro n i o h hi
    cases i with
    | zero =>
      rw [List.getElem?_cons_zero] at hi
      have := Option.some.inj hi
      rw [← this]
      exact h.1
    | succ i =>
      rw [List.getElem?_cons_succ] at hi
      have := ih (n + 1) i o h.2 hi
      rwa [show n + 1 + i = n + (i + 1) by omega] at this

/-- Each operation waits for earlier ones alone. -/
def backB (ops : Array Oper) : Bool := (List.range ops.size).all fun i => ((ops[i]?).map (fun o => o.after.all fun e => decide (e.on < i))).getD true

/-- How many have not run. -/
def left (n : Nat) (l : Array Bool) : Nat := ((List.range n).filter fun i => !l.getD i true).length

theorem filter_lt {α : Type} (l : List α) (p q : α → Bool) (x : α) (hx : x ∈ l) (h1 : p x = true) (h2 : q x = false) (h : ∀ y, q y = true → p y = true) : (l.filter q).length < (l.filter p).length := by
  induction l with
  | nil => cases hx
  | cons y l ih =>
    have hle : (l.filter q).length ≤ (l.filter p).length := by
      clear ih hx
      induction l with
      | nil => simp
      | cons z l ih2 =>
        simp only [List.filter_cons]
        by_cases hz : q z = true
        · simp [hz, h z hz]; exact ih2
        · simp [hz]; split <;> (try simp) <;> omega
    simp only [List.filter_cons]
    rcases List.mem_cons.1 hx with rfl | hx
    · simp [h1, h2]; omega
    · have := ih hx
      by_cases hy : q y = true
      · simp [hy, h y hy]; exact this
      · simp [hy]; split <;> (try simp) <;> omega

theorem getD_set (l : Array Bool) (i j : Nat) (d : Bool) (hi : i < l.size) : (l.setIfInBounds i true).getD j d = if j = i then true else l.getD j d := by
  simp only [Array.getD_eq_getD_getElem?, Array.getElem?_setIfInBounds]
  by_cases h : i = j
  · subst h; simp [hi]
  · simp [h, Ne.symm h]

theorem left_set (l : Array Bool) (i : Nat) (n : Nat) (hn : l.size = n) (hi : i < n) (hf : l.getD i true = false) : left n (l.setIfInBounds i true) < left n l := by
  refine filter_lt _ _ _ i (List.mem_range.2 hi) (by simp only [hf]; rfl) ?_ ?_
  · rw [getD_set l i i true (by omega)]; simp
  · intro y hy
    rw [getD_set l i y true (by omega)] at hy
    by_cases h : y = i
    · simp [h] at hy
    · simpa [h] using hy

def backB2 (ops : Array Oper) : Bool := (List.range ops.size).all fun i => ((ops[i]?).map (fun o => o.after.all fun e => !Region.binds .any e || decide (e.on < i))).getD true

theorem wp_region_inv2 {P : Program} {id : Nat} {ops : Array Oper} {Q : Exit → Act → World → Prop} {a : Act} {w : World} (hm : P.follows .mixedOrders = true) (hback : backB2 ops = true)
    (I : (Nat → Bool) → Act → World → Prop) (h0 : I (fun _ => false) a w.drew)
    (step : AllOps (fun i o => ∀ (L : Nat → Bool) (a : Act) (w : World) (K : Act → World → Prop), L i = false → (∀ e ∈ o.after, Region.binds .any e = true → L e.on = true) → I L a w → (∀ a' w', I (upd L i) a' w' → K a' w') →
      (if Region.wanted o (yielded ops a.tmps) = true then Oper.wp P o a w K Q else K (a.put o.dst undef) w)) 0 ops.toList)
    (fin : ∀ (L : Nat → Bool) (a : Act) (w : World), (∀ i, i < ops.size → L i = true) → I L a w → Q .normal a w) : (Code.region id ops true).wp P Q a w := by
  refine wp_region_any hm ?_
  have key : ∀ (fuel : Nat) (l : Array Bool) (a : Act) (w : World), l.size = ops.size → left ops.size l ≤ fuel → I (fun j => l.getD j false) a w → wpAny P .any ops Q fuel l a w := by
    intro fuel
    have done : ∀ (l : Array Bool) (a : Act) (w : World), l.size = ops.size → Region.ready .any ops l = [] → I (fun j => l.getD j false) a w → Q .normal a w := by
      intro l a w hl hr hI
      refine fin _ a w ?_ hI
      have all : ∀ n i, i < n → i < ops.size → l.getD i false = true := by
        intro n
        induction n with
        | zero => intro i hi; omega
        | succ n ih =>
          intro i hi hio
          by_cases hin : i < n
          · exact ih i hin hio
          · have hi' : i = n := by omega
            subst hi'
            rcases hg : l.getD i false with _ | _
            · exfalso
              have hg' : l.getD i true = false := by
                rw [Array.getD_eq_getD_getElem?, Array.getElem?_eq_getElem (by omega)] at hg ⊢
                exact hg
              have hmem : i ∈ Region.ready .any ops l := by
                unfold Region.ready
                refine List.mem_filter.2 ⟨List.mem_range.2 hio, ?_⟩
                rw [hg', Array.getElem?_eq_getElem hio]
                simp only [Bool.not_false, Bool.true_and, Option.map_some, Option.getD_some, Array.all_eq_true']
                intro e he
                have hb := (List.all_eq_true.1 hback) i (List.mem_range.2 hio)
                rw [Array.getElem?_eq_getElem hio] at hb
                simp only [Option.map_some, Option.getD_some, Array.all_eq_true'] at hb
                have hb2 := hb e he
                cases hbi : Region.binds .any e with
                | false => simp
                | true =>
                  rw [hbi] at hb2
                  have hlt : e.on < i := by simpa using hb2
                  rw [ih e.on hlt (by omega)]
                  simp
              rw [hr] at hmem
              cases hmem
            · rfl
      exact fun i hi => all (i + 1) i (by omega) hi
    induction fuel with
    | zero =>
      intro l a w hl hz hI
      have hr : Region.ready .any ops l = [] := by
        unfold Region.ready
        unfold left at hz
        have hnil := List.eq_nil_of_length_eq_zero (Nat.le_zero.1 hz)
        refine List.filter_eq_nil_iff.2 (fun i hi => ?_)
        have := (List.filter_eq_nil_iff.1 hnil) i hi
        simp at this
        simp [this]
      exact ⟨hr, done l a w hl hr hI⟩
    | succ fuel ih =>
      intro l a w hl hz hI
      refine ⟨fun hr => done l a w hl hr hI, fun i hi => ?_⟩
      unfold Region.ready at hi
      obtain ⟨hir, hc⟩ := List.mem_filter.1 hi
      have hio := List.mem_range.1 hir
      simp only [Bool.and_eq_true, Bool.not_eq_true'] at hc
      obtain ⟨hf, hdep⟩ := hc
      rw [Array.getElem?_eq_getElem hio] at hdep
      simp only [Option.map_some, Option.getD_some, Array.all_eq_true', Bool.or_eq_true, Bool.not_eq_true'] at hdep
      have hst := AllOps.get ops.toList 0 i ops[i] step (by rw [Array.getElem?_toList]; exact Array.getElem?_eq_getElem hio)
      rw [Nat.zero_add] at hst
      have hf' : l.getD i false = false := by
        rw [Array.getD_eq_getD_getElem?, Array.getElem?_eq_getElem (by omega)] at hf ⊢
        exact hf
      have hK : ∀ a' w', I (upd (fun j => l.getD j false) i) a' w' → wpAny P .any ops Q fuel (l.setIfInBounds i true) a' w' := by
        intro a' w' h
        refine ih _ a' w' (by simp [hl]) (by have := left_set l i ops.size hl hio hf; omega) ?_
        have e : (fun j => (l.setIfInBounds i true).getD j false) = upd (fun j => l.getD j false) i := by
          funext j
          rw [getD_set l i j false (by omega)]
          rfl
        rw [e]
        exact h
      have hres := hst (fun j => l.getD j false) a w _ hf' (fun e he hb => (hdep e he).resolve_left (by rw [hb]; simp)) hI hK
      unfold wpOp
      rw [Array.getElem?_eq_getElem hio]
      simp only
      split
      · rename_i hw
        rw [if_pos hw] at hres
        exact Or.inl hres
      · rename_i hw
        rw [if_neg hw] at hres
        exact hres
  refine key ops.size _ a _ (by simp) ?_ ?_
  · unfold left
    exact Nat.le_trans (List.length_filter_le _ _) (by simp)
  · have e : (fun j => (Array.replicate ops.size false).getD j false) = fun _ => false := by
      funext j
      simp only [Array.getD_eq_getD_getElem?, Array.getElem?_replicate]
      split <;> rfl
    rw [e]
    exact h0

end Go.Proofs.YthklnpkjlepagaaGreatDoor.Ab
namespace Go.Proofs.YthklnpkjlepagaaGreatDoor.Ab
open Go.RowKit

/-- An operation looks at its operands alone. -/
theorem sop_congr {P : Program} {T : Tabs} {H : Hp} {n : Nat} {fr fr' : Fr} {o : Oper} (h : ∀ x ∈ o.op.operands, evO T fr x = evO T fr' x) : sop P T H n fr o = sop P T H n fr' o := by
  have hm : ∀ {l : List Operand}, (∀ x ∈ l, evO T fr x = evO T fr' x) → l.map (evO T fr) = l.map (evO T fr') := fun hl => List.map_congr_left hl
  unfold sop
  cases ho : o.op with
  | build t ps =>
    simp only [ho, Op.operands] at h ⊢
    have : (ps.toList.map fun p => (p.1, evO T fr p.2)) = (ps.toList.map fun p => (p.1, evO T fr' p.2)) := List.map_congr_left fun p hp => by rw [h p.2 (by simp; exact ⟨p.1, by simpa using hp⟩)]
    rw [this]
  | buildSlice t l ps =>
    simp only [ho, Op.operands] at h ⊢
    have : (ps.toList.map fun p => (p.1, evO T fr p.2)) = (ps.toList.map fun p => (p.1, evO T fr' p.2)) := List.map_congr_left fun p hp => by rw [h p.2 (by simp; exact ⟨p.1, by simpa using hp⟩)]
    rw [this]
  | makeFunc fn first cap =>
    simp only [ho, Op.operands] at h ⊢
    rw [hm (l := first.toList) fun x hx => h x (by simp; exact Or.inl (by simpa using hx)), hm (l := cap.toList) fun x hx => h x (by simp; exact Or.inr (by simpa using hx))]
  | slice t x lo hi mx =>
    simp only [ho, Op.operands] at h ⊢
    cases mx with
    | some m => rfl
    | none =>
      have e1 : evO T fr x = evO T fr' x := h x (by simp)
      have e2 : lo.map (evO T fr) = lo.map (evO T fr') := by
        cases lo with
        | none => rfl
        | some l => simp [h l (by simp)]
      have e3 : hi.map (evO T fr) = hi.map (evO T fr') := by
        cases hi with
        | none => rfl
        | some l => simp [h l (by simp)]
      simp only [e1, e2, e3]
  | call c =>
    simp only [ho, Op.operands, Call.operands] at h ⊢
    cases hc : c.callee with
    | value f => rfl
    | invoke r m => rfl
    | builtin b =>
      simp only [hc] at h
      cases b <;> simp only
      case len =>
        split
        · rename_i t ts x hat har
          rw [h x (by have : x ∈ c.args.toList := by rw [har]; simp
                      simpa using this)]
        · rfl
      case append =>
        split
        · rename_i t tx s x hat har
          rw [h x (by have : x ∈ c.args.toList := by rw [har]; simp
                      simpa using this), h s (by have : s ∈ c.args.toList := by rw [har]; simp
                                                 simpa using this)]
        · rfl
      case copy =>
        split
        · rename_i t tx d x hat har
          rw [h x (by have : x ∈ c.args.toList := by rw [har]; simp
                      simpa using this), h d (by have : d ∈ c.args.toList := by rw [har]; simp
                                                 simpa using this)]
        · rfl
      case max =>
        rw [hm (l := c.args.toList) fun x hx => h x (by simpa using hx)]
      case min =>
        rw [hm (l := c.args.toList) fun x hx => h x (by simpa using hx)]
  | makeMap t r => cases r <;> rfl
  | _ => simp_all [Op.operands]

theorem callee_congr {T : Tabs} {fr fr' : Fr} {o : Oper} (h : ∀ x ∈ o.op.operands, evO T fr x = evO T fr' x) : calleeOf T fr o = calleeOf T fr' o := by
  unfold calleeOf
  cases ho : o.op <;> simp only
  rename_i c
  simp only [ho, Op.operands, Call.operands] at h
  cases hc : c.callee with
  | value f =>
    simp only [hc] at h ⊢
    rw [h f (by simp), show c.args.toList.map (evO T fr) = c.args.toList.map (evO T fr') from List.map_congr_left fun x hx => h x (by simp; exact Or.inr (by simpa using hx))]
  | invoke r m => rfl
  | builtin b => rfl

theorem opA_congr {P : Program} {T : Tabs} {call : CallA} {loc : Nat} {H : Hp} {n : Nat} {fr fr' : Fr} {o : Oper} (h : ∀ x ∈ o.op.operands, evO T fr x = evO T fr' x) : opA P T call loc H n fr o = opA P T call loc H n fr' o := by
  unfold opA
  rw [callee_congr h, sop_congr h]

/-- The temporaries that are read. -/
def reads (ops : Array Oper) (o : Oper) : List Nat := (o.op.operands.toList.filterMap fun x => match x with
    | .tmp t => some t
    | _ => none) ++ (match o.guard with
    | none => []
    | some (j, _) => match ops[j]? with
      | some oj => oj.dst.toList
      | none => [])
theorem reads_op {T : Tabs} {ops : Array Oper} {fr fr' : Fr} {o : Oper} (h : ∀ t ∈ reads ops o, fr.get t = fr'.get t) : ∀ x ∈ o.op.operands, evO T fr x = evO T fr' x := by
  intro x hx
  cases x with
  | tmp t =>
    have : t ∈ reads ops o := by
      unfold reads
      refine List.mem_append_left _ (List.mem_filterMap.2 ⟨.tmp t, by simpa using hx, rfl⟩)
    simp only [evO, h t this]
  | _ => rfl
theorem reads_wanted {ops : Array Oper} {fr fr' : Fr} {o : Oper} (h : ∀ t ∈ reads ops o, fr.get t = fr'.get t) : wantedA ops fr o = wantedA ops fr' o := by
  unfold wantedA
  cases hg : o.guard with
  | none => rfl
  | some p =>
    obtain ⟨j, want⟩ := p
    simp only
    cases hj : ops[j]? with
    | none => rfl
    | some oj =>
      simp only
      cases hd : oj.dst with
      | none => rfl
      | some d =>
        simp only
        rw [h d (by
          unfold reads
          refine List.mem_append_right _ ?_
          simp [hg, hj, hd])]

/-- For whom an operation waits, as bits. -/
def bitOf (acc : List Nat) : List Edge → Nat
  | [] => 0
  | e :: es => if Region.binds .any e then (2 ^ e.on ||| acc.getD e.on 0) ||| bitOf acc es else bitOf acc es
def bitsGo : List Nat → List Oper → List Nat
  | acc, [] => acc
  | acc, o :: os => bitsGo (acc ++ [bitOf acc o.after.toList]) os
def bits (ops : Array Oper) : List Nat := bitsGo [] ops.toList

theorem bitOf_ok {acc : List Nat} {j : Nat} : ∀ {es : List Edge}, (bitOf acc es).testBit j = true → ∃ e ∈ es, Region.binds .any e = true ∧ (j = e.on ∨ (acc.getD e.on 0).testBit j = true)
  | [], h => by simp [bitOf] at h
  | e :: es, h => by
    simp only [bitOf] at h
    split at h
    · rename_i hb
      rw [Nat.testBit_or, Nat.testBit_or] at h
      simp only [Bool.or_eq_true] at h
      rcases h with (h | h) | h
      · rw [Nat.testBit_two_pow] at h
        exact ⟨e, List.mem_cons_self .., hb, Or.inl (by simpa using (of_decide_eq_true h).symm)⟩
      · exact ⟨e, List.mem_cons_self .., hb, Or.inr h⟩
      · obtain ⟨e', h1, h2, h3⟩ := bitOf_ok h
        exact ⟨e', List.mem_cons_of_mem _ h1, h2, h3⟩
    · obtain ⟨e', h1, h2, h3⟩ := bitOf_ok h
      exact ⟨e', List.mem_cons_of_mem _ h1, h2, h3⟩

/-- What bits say: who is waited for, at once or by another one. -/
def BitsOk (ops : List Oper) (bs : List Nat) : Prop := ∀ (i : Nat) (o : Oper) (j : Nat), ops[i]? = some o → (bs.getD i 0).testBit j = true → ∃ e ∈ o.after.toList, Region.binds .any e = true ∧ (j = e.on ∨ (bs.getD e.on 0).testBit j = true)
theorem bitsGo_len : ∀ (os : List Oper) (acc : List Nat), (bitsGo acc os).length = acc.length + os.length
  | [], acc => by simp [bitsGo]
  | o :: os, acc => by simp only [bitsGo]; rw [bitsGo_len os]; simp; omega
theorem bitsGo_old : ∀ (os : List Oper) (acc : List Nat) (i : Nat), i < acc.length → (bitsGo acc os).getD i 0 = acc.getD i 0
  | [], _, _, _ => rfl
  | o :: os, acc, i, h => by
    simp only [bitsGo]
    rw [bitsGo_old os _ i (by simp; omega), List.getD_eq_getElem?_getD, List.getD_eq_getElem?_getD, List.getElem?_append_left h]
theorem bitsGo_ok : ∀ (os : List Oper) (pre : List Oper) (acc : List Nat), acc.length = pre.length → (∀ o ∈ os, True) → (∀ (i : Nat) (o : Oper) (j : Nat), pre[i]? = some o → (acc.getD i 0).testBit j = true → ∃ e ∈ o.after.toList, Region.binds .any e = true ∧ e.on < acc.length ∧ (j = e.on ∨ (acc.getD e.on 0).testBit j = true)) →
    (∀ (i : Nat) (o : Oper), os[i]? = some o → ∀ e ∈ o.after.toList, Region.binds .any e = true → e.on < pre.length + i) → BitsOk (pre ++ os) (bitsGo acc os)
  | [], pre, acc, hl, _, hI, _ => by
    intro i o j hi hb
    rw [List.append_nil] at hi
    obtain ⟨e, h1, h2, _, h3⟩ := hI i o j hi hb
    exact ⟨e, h1, h2, h3⟩
  | o :: os, pre, acc, hl, _, hI, hback => by
    have hlast : (acc ++ [bitOf acc o.after.toList]).getD acc.length 0 = bitOf acc o.after.toList := by simp [List.getD_eq_getElem?_getD]
    have hold : ∀ i, i < acc.length → (acc ++ [bitOf acc o.after.toList]).getD i 0 = acc.getD i 0 := fun i hi => by
      rw [List.getD_eq_getElem?_getD, List.getD_eq_getElem?_getD, List.getElem?_append_left hi]
    have := bitsGo_ok os (pre ++ [o]) (acc ++ [bitOf acc o.after.toList]) (by simp [hl]) (fun _ _ => trivial) (fun i o' j hi hb => by
      rcases Nat.lt_or_ge i pre.length with hlt | hge
      · rw [List.getElem?_append_left hlt] at hi
        rw [hold i (by omega)] at hb
        obtain ⟨e, h1, h2, h3, h4⟩ := hI i o' j hi hb
        exact ⟨e, h1, h2, by simp; omega, by rw [hold _ h3]; exact h4⟩
      · have hi2 : i = pre.length := by
          rcases Nat.lt_or_ge pre.length i with h9 | h9
          · rw [List.getElem?_eq_none (by simp; omega)] at hi; cases hi
          · omega
        subst hi2
        rw [List.getElem?_append_right (Nat.le_refl _), Nat.sub_self] at hi
        simp at hi
        subst hi
        rw [← hl, hlast] at hb
        obtain ⟨e, h1, h2, h3⟩ := bitOf_ok hb
        have h4 := hback 0 o rfl e h1 h2
        exact ⟨e, h1, h2, by simp; omega, by rw [hold _ (by omega)]; exact h3⟩) (fun i o' hi e he hb => by
      have := hback (i + 1) o' (by simpa using hi) e he hb
      simp; omega)
    simpa [bitsGo] using this

/-- Everybody waits for earlier ones alone. -/
theorem bits_ok {ops : Array Oper} (hb : ∀ (i : Nat) (o : Oper), ops[i]? = some o → ∀ e ∈ o.after.toList, Region.binds .any e = true → e.on < i) : BitsOk ops.toList (bits ops) := by
  have := bitsGo_ok ops.toList [] [] rfl (fun _ _ => trivial) (fun i o j hi _ => by simp at hi) (fun i o hi e he h => by
    have := hb i o (by simpa using hi) e he h
    simpa using this)
  simpa [bits] using this

/-- What one of many has told last: of those that have run. -/
def look {α ε : Type} (f : ε → Option α) (L : Nat → Bool) : List ε → Nat → α → α
  | [], _, d => d
  | e :: E, i, d => look f L E (i + 1) (if L i then (f e).getD d else d)
theorem look_congr {α ε : Type} {f : ε → Option α} {L L' : Nat → Bool} : ∀ {E : List ε} {i : Nat} {d : α}, (∀ (k : Nat) (e : ε), E[k]? = some e → f e ≠ none → L (i + k) = L' (i + k)) → look f L E i d = look f L' E i d
  | [], _, _, _ => rfl
  | e :: E, i, d, h => by
    simp only [look]
    have h1 : (if L i then (f e).getD d else d) = (if L' i then (f e).getD d else d) := by
      cases hf : f e with
      | none => simp
      | some a =>
        have := h 0 e rfl (by rw [hf]; simp)
        simp only [Nat.add_zero] at this
        rw [this]
    rw [h1]
    exact look_congr fun k e' hk hn => by
      have := h (k + 1) e' (by simpa using hk) hn
      rwa [show i + (k + 1) = i + 1 + k by omega] at this
theorem look_none {α ε : Type} {f : ε → Option α} {L : Nat → Bool} : ∀ {E : List ε} {i : Nat} {d : α}, (∀ (k : Nat) (e : ε), E[k]? = some e → L (i + k) = true → f e = none) → look f L E i d = d
  | [], _, _, _ => rfl
  | e :: E, i, d, h => by
    simp only [look]
    have h1 : (if L i then (f e).getD d else d) = d := by
      cases hL : L i with
      | false => simp
      | true => rw [h 0 e rfl hL]; simp
    rw [h1]
    exact look_none fun k e' hk hn => h (k + 1) e' (by simpa using hk) (by rwa [show i + (k + 1) = i + 1 + k by omega])
/-- One more runs, whom nobody overtook. -/
theorem look_upd {α ε : Type} {f : ε → Option α} {L : Nat → Bool} : ∀ {E : List ε} {k i : Nat} {e : ε} {d : α}, E[k]? = some e → (∀ (k' : Nat) (e' : ε), E[k']? = some e' → k < k' → L (i + k') = true → f e' = none) →
    look f (upd L (i + k)) E i d = (f e).getD (look f L E i d)
  | e0 :: E, 0, i, e, d, hk, hlate => by
    simp at hk
    subst hk
    have e1 : ∀ d', look f (upd L (i + 0)) E (i + 1) d' = d' := fun d' => look_none fun k e' hk' hL => by
      refine hlate (k + 1) e' (by simpa using hk') (by omega) ?_
      unfold upd at hL
      rw [if_neg (by omega)] at hL
      rwa [show i + (k + 1) = i + 1 + k by omega]
    have e2 : ∀ d', look f L E (i + 1) d' = d' := fun d' => look_none fun k e' hk' hL => hlate (k + 1) e' (by simpa using hk') (by omega) (by rwa [show i + (k + 1) = i + 1 + k by omega])
    simp only [look, e1, e2]
    have : upd L (i + 0) i = true := by simp [upd]
    rw [this]
    cases f e0 <;> simp
  | e0 :: E, k + 1, i, e, d, hk, hlate => by
    simp only [look]
    have : upd L (i + (k + 1)) i = L i := by unfold upd; rw [if_neg (by omega)]
    rw [this, show i + (k + 1) = i + 1 + k by omega]
    exact look_upd (by simpa using hk) fun k' e' hk' hlt hL => hlate (k' + 1) e' (by simpa using hk') (by omega) (by rwa [show i + (k' + 1) = i + 1 + k' by omega])
  | [], _, _, _, _, hk, _ => by simp at hk
end Go.Proofs.YthklnpkjlepagaaGreatDoor.Ab
