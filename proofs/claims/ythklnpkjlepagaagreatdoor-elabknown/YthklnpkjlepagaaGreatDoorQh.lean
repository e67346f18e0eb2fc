/- Every operation that enters no function, and what it comes to. -/
import Derived.Test.YthklnpkjlepagaaGreatDoorQg
namespace Go.Proofs.YthklnpkjlepagaaGreatDoor.Ab
open Go.RowKit

/-- What needs no memory and asks nothing. -/
def pureRun {α : Type} (P : Program) : Sem α → Option α
  | .pure a => some a
  | .program k => pureRun P (k P)
  | .mark _ k => pureRun P k
  | _ => none
theorem pureRun_ok {α : Type} {P : Program} {a : α} (w : World) : ∀ (s : Sem α), pureRun P s = some a → s.run P w = .ok a w
  | .pure b, h => by simp [pureRun] at h; subst h; rfl
  | .program k, h => pureRun_ok w (k P) h
  | .mark _ k, h => pureRun_ok w k h

def ofV (v : Value) : AV := match v with
  | .agg cs => AV.agg (cs.toList.map AV.ex)
  | .tuple cs => AV.tup (cs.toList.map AV.ex)
  | v => AV.ex v
theorem rl_ex {C : Cx} : ∀ (vs : List Value), RL C (vs.map AV.ex) vs
  | [] => trivial
  | _ :: vs => ⟨rv_ex, rl_ex vs⟩
theorem rv_ofV {C : Cx} (v : Value) : RV C (ofV v) v := by
  unfold ofV
  split
  · exact rv_agg (rl_ex _)
  · exact rv_tup (rl_ex _)
  · exact rv_ex

def globAt : List (Nat × AV) → Nat → AV
  | [], _ => AV.any
  | p :: ps, g => if p.1 = g then p.2 else globAt ps g
/-- The variables are as the table says, the named values are these. -/
def GOk (T : Tabs) (S : Nat → Value) (C : Cx) : Prop := (∀ p ∈ T.glob, RV C p.2 (.pointer (some ⟨p.1, 0, none⟩))) ∧ C.S = S
variable {S : Nat → Value}
theorem GOk.mono {T : Tabs} {C C' : Cx} (h : GOk T S C) (g : C.le C') : GOk T S C' := ⟨fun p hp => (h.1 p hp).mono g, g.S.trans h.2⟩
theorem rv_glob {T : Tabs} {C : Cx} (h : GOk T S C) (g : Nat) : RV C (globAt T.glob g) (.pointer (some ⟨g, 0, none⟩)) := by
  replace h := h.1
  revert h
  generalize T.glob = l
  intro h
  induction l with
  | nil => exact rv_any
  | cons p ps ih =>
    simp only [globAt]
    split
    · rename_i e
      have := h p (List.mem_cons_self ..)
      rwa [e] at this
    · exact ih fun q hq => h q (List.mem_cons_of_mem _ hq)

/-- The true frame, of so many slots. -/
structure RF (C : Cx) (N : Nat) (fr : Fr) (a : Act) : Prop where
  size : a.tmps.size = N
  at_ : ∀ t, RV C (fr.get t) (a.tmps.getD t undef)
theorem RF.mono {C C' : Cx} (h : C.le C') {N : Nat} {fr : Fr} {a : Act} (g : RF C N fr a) : RF C' N fr a := ⟨g.size, fun t => (g.at_ t).mono h⟩
theorem RF.congr {C : Cx} {N : Nat} {fr fr' : Fr} {a : Act} (g : RF C N fr a) (h : ∀ t, fr'.get t = fr.get t) : RF C N fr' a := ⟨g.size, fun t => by rw [h t]; exact g.at_ t⟩
theorem rf_put {C : Cx} {N : Nat} {fr : Fr} {a : Act} (h : RF C N fr a) (d : Option Nat) {x : AV} {v : Value} (hx : RV C x v) : RF C N (putA N fr d x) (a.put d v) := by
  refine ⟨?_, fun t => ?_⟩
  · cases d with
    | none => exact h.size
    | some d => simp only [Act.put, Array.size_setIfInBounds]; exact h.size
  · rw [putA_get]
    cases d with
    | none => simp only [reduceCtorEq, false_and, if_false]; exact h.at_ t
    | some d =>
      simp only [Act.put, Option.some.injEq]
      by_cases e : d = t
      · subst e
        by_cases hl : d < N
        · by_cases h5 : d < 512
          · rw [if_pos ⟨rfl, hl, h5⟩]
            rw [Array.getD_eq_getD_getElem?, Array.getElem?_setIfInBounds_self_of_lt (by rw [h.size]; exact hl)]
            exact hx
          · rw [if_neg (fun g => h5 g.2.2)]
            have : fr.get d = AV.any := by simp only [Fr.get, rdC, if_neg h5]
            rw [this]
            exact rv_any
        · rw [if_neg (fun g => hl g.2.1)]
          have := h.at_ d
          have hs := h.size
          rw [Array.getD_eq_getD_getElem?, Array.getElem?_eq_none (by omega)] at this
          rw [Array.getD_eq_getD_getElem?, Array.getElem?_eq_none (by simp; omega)]
          exact this
      · rw [if_neg (fun g => e g.1)]
        have := h.at_ t
        rw [Array.getD_eq_getD_getElem?] at this ⊢
        rw [Array.getElem?_setIfInBounds_ne e]
        exact this

/-- An operand. -/
def evO (T : Tabs) (fr : Fr) : Operand → AV
  | .tmp t => fr.get t
  | .const v => ofV v
  | .global g => globAt T.glob g
  | .func f => AV.ex (.func (.func f) #[] #[])
theorem rv_op {T : Tabs} {C : Cx} {N : Nat} {fr : Fr} {a : Act} (hG : GOk T S C) (h : RF C N fr a) (x : Operand) : RV C (evO T fr x) (a.eval x) := by
  cases x with
  | tmp t => exact h.at_ t
  | const v => exact rv_ofV v
  | global g => exact rv_glob hG g
  | func f => exact rv_ex

/-- The value that an exact one is. -/
def AV.exact (x : AV) : Option Value := if x.t = 0 then some x.v else none
theorem rv_exact {C : Cx} {x : AV} {v u : Value} (h : RV C x v) (e : x.exact = some u) : v = u := by
  unfold AV.exact at e
  split at e
  · rename_i h0
    cases e
    exact h.case.1 h0
  · cases e
def AV.bool (x : AV) : Option Bool := if x.t = 0 then (match x.v with
  | .bool b => some b
  | _ => none) else none
theorem rv_bool {C : Cx} {x : AV} {v : Value} {b : Bool} (h : RV C x v) (e : x.bool = some b) : v = .bool b := by
  unfold AV.bool at e
  split at e
  · rename_i h0
    split at e
    · rename_i c hc
      cases e
      rw [h.case.1 h0, hc]
    · cases e
  · cases e

/-- One that is surely not nil, against nil. -/
def notNil (k : Nat) (x y : AV) : Bool := decide (y.t = 0) && (match y.v with
  | .pointer none => decide (k = 6) && (decide (x.t = 3) || decide (x.t = 4))
  | .slice none _ _ => decide (k = 3) && (decide (x.t = 5) || decide (x.t = 7) || decide (x.t = 8))
  | .nilFunc => decide (k = 9) && decide (x.t = 9)
  | .nilIface => decide (k = 7) && decide (x.t = 10)
  | _ => false)
def xNil (T : Tabs) (op : BinOp) (t : Nat) (x y : AV) : Option AV := (T.tiAt t).bind fun ti => if notNil ti.kind x y || notNil ti.kind y x then (match op with
  | .eql => some (AV.ex (.bool false))
  | .neq => some (AV.ex (.bool true))
  | _ => none) else none

theorem equal_one {P : Program} {w : World} {t : Nat} {v u : Value} {b : Bool} (h : (Op.equalIn (9999 + 1) t v u).run P w = .ok b w) : (Op.equal t v u).run P w = .ok b w := h

/-- What is asked of two values that are surely not equal. -/
def Unlike (P : Program) (w : World) (t : Nat) (v u : Value) : Prop :=
  (Op.equal t v u).run P w = .ok false w ∧ binOp .eql t v u = (do pure (.bool (← Op.equal t v u))) ∧ binOp .neq t v u = (do pure (.bool (!(← Op.equal t v u)))) ∧ ∀ op a b, (eqGuard op t a b v u).run P w = .ok () w

theorem notNil_ok {P : Program} {C : Cx} {t : Nat} {ti : TI} (tk : TOk P t ti) {x y : AV} {v u : Value} (hx : RV C x v) (hy : RV C y u) (h : notNil ti.kind x y = true) : Unlike P C.w t v u ∧ Unlike P C.w t u v := by
  unfold notNil at h
  simp only [Bool.and_eq_true, decide_eq_true_eq] at h
  obtain ⟨h0, h⟩ := h
  have hu := hy.case.1 h0
  have hk := tk.kind
  unfold kindB at hk
  split at h
  · rename_i hv
    rw [hv] at hu
    subst hu
    simp only [Bool.and_eq_true, Bool.or_eq_true, decide_eq_true_eq] at h
    have : ∃ a, v = .pointer (some a) := by
      rcases h.2 with k | k
      · exact ⟨_, (hx.case.2.2.2.1 k).1⟩
      · obtain ⟨_, _, _, r, _⟩ := hx.case.2.2.2.2.1 k; exact ⟨_, r⟩
    obtain ⟨a, rfl⟩ := this
    split at hk <;> simp [h.1] at hk
    rename_i e hd
    have hu : P.underlying t = some (.pointer e) := by rw [tk.hd, hd]
    exact ⟨⟨equal_one (by rw [Op.equalIn]; simp [run_underlying hu]), rfl, rfl, fun op a b => by cases op <;> simp [eqGuard]⟩, ⟨equal_one (by rw [Op.equalIn]; simp [run_underlying hu]), rfl, rfl, fun op a b => by cases op <;> simp [eqGuard]⟩⟩
  · rename_i n c hv
    rw [hv] at hu
    subst hu
    simp only [Bool.and_eq_true, Bool.or_eq_true, decide_eq_true_eq] at h
    have : ∃ a n c, v = .slice (some a) n c := by
      rcases h.2 with (k | k) | k
      · obtain ⟨_, _, _, r, _⟩ := hx.case.2.2.2.2.2.1 k; exact ⟨_, _, _, r⟩
      · obtain ⟨_, _, _, r, _⟩ := hx.case.2.2.2.2.2.2.2.1 k; exact ⟨_, _, _, r⟩
      · obtain ⟨_, _, _, _, r, _⟩ := hx.case.2.2.2.2.2.2.2.2.1 k; exact ⟨_, _, _, r⟩
    obtain ⟨a, n', c', rfl⟩ := this
    split at hk <;> simp [h.1] at hk
    rename_i e hd
    have hu : P.underlying t = some (.slice e) := by rw [tk.hd, hd]
    exact ⟨⟨equal_one (by rw [Op.equalIn]; simp [run_underlying hu]), rfl, rfl, fun op a b => by cases op <;> simp [eqGuard]⟩, ⟨equal_one (by rw [Op.equalIn]; simp [run_underlying hu]), rfl, rfl, fun op a b => by cases op <;> simp [eqGuard]⟩⟩
  · rename_i hv
    rw [hv] at hu
    subst hu
    simp only [Bool.and_eq_true, decide_eq_true_eq] at h
    obtain ⟨g, us, vs, _, rfl, _⟩ := hx.case.2.2.2.2.2.2.2.2.2.1 h.2
    split at hk <;> simp [h.1] at hk
    rename_i ps rs vr hd
    have hu : P.underlying t = some (.func ps rs vr) := by rw [tk.hd, hd]
    exact ⟨⟨equal_one (by rw [Op.equalIn]; simp [run_underlying hu]), rfl, rfl, fun op a b => by cases op <;> simp [eqGuard]⟩, ⟨equal_one (by rw [Op.equalIn]; simp [run_underlying hu]), rfl, rfl, fun op a b => by cases op <;> simp [eqGuard]⟩⟩
  · rename_i hv
    rw [hv] at hu
    subst hu
    simp only [Bool.and_eq_true, decide_eq_true_eq] at h
    obtain ⟨u, rfl, _⟩ := hx.case.2.2.2.2.2.2.2.2.2.2.1 h.2
    split at hk <;> simp [h.1] at hk
    rename_i ms hd
    have hu : P.underlying t = some (.interface ms) := by rw [tk.hd, hd]
    exact ⟨⟨equal_one (by rw [Op.equalIn]; simp [run_underlying hu]), rfl, rfl, fun op a b => by cases op <;> simp [eqGuard]⟩, ⟨equal_one (by rw [Op.equalIn]; simp [run_underlying hu]), rfl, rfl, fun op a b => by cases op <;> simp [eqGuard]⟩⟩
  · cases h

theorem xNil_ok {P : Program} {T : Tabs} (hT : TabOk P T) {C : Cx} {op : BinOp} {t : Nat} {x y z : AV} {v u : Value} (hx : RV C x v) (hy : RV C y u) (e : xNil T op t x y = some z) (a b : Operand) : ∃ r, (do eqGuard op t a b v u; binOp op t v u : Sem Value).run P C.w = .ok r C.w ∧ RV C z r := by
  unfold xNil at e
  obtain ⟨ti, h1, e⟩ := Option.bind_eq_some_iff.1 e
  obtain ⟨tk⟩ := hT _ _ h1
  split at e
  · rename_i hn
    have key : Unlike P C.w t v u := by
      rcases (Bool.or_eq_true_iff.1 hn : _ ∨ _) with h | h
      · exact (notNil_ok tk hx hy h).1
      · exact (notNil_ok tk hy hx h).2
    obtain ⟨k1, k2, k3, k4⟩ := key
    split at e
    · cases e
      exact ⟨.bool false, by rw [k2]; simp [k4, k1], rv_ex⟩
    · cases e
      exact ⟨.bool true, by rw [k3]; simp [k4, k1], rv_ex⟩
    · cases e
  · cases e

/-- An int that has a name, against itself. -/
def symEq (op : BinOp) : Option AV := match op with
  | .eql => some (AV.ex (.bool true))
  | .leq => some (AV.ex (.bool true))
  | .geq => some (AV.ex (.bool true))
  | .neq => some (AV.ex (.bool false))
  | .lss => some (AV.ex (.bool false))
  | .gtr => some (AV.ex (.bool false))
  | _ => none
theorem symEq_ok {P : Program} {C : Cx} {op : BinOp} {t : Nat} {n : Int} {z : AV} (e : symEq op = some z) (a b : Operand) : ∃ r, (do eqGuard op t a b (.int .i64 n) (.int .i64 n); binOp op t (.int .i64 n) (.int .i64 n) : Sem Value).run P C.w = .ok r C.w ∧ RV C z r := by
  unfold symEq at e
  split at e <;> first | cases e | skip
  all_goals refine ⟨_, ?_, rv_ex⟩
  all_goals simp [eqGuard, binOp, Op.intCmp]
/-- A binary operation. -/
def xBin (P : Program) (T : Tabs) (op : BinOp) (t : Nat) (a b : Operand) (x y : AV) : Option AV := match x.exact, y.exact with
  | some v, some u => (pureRun P (do eqGuard op t a b v u; binOp op t v u : Sem Value)).map ofV
  | _, _ => if x.t = 14 ∧ y.t = 14 ∧ x.a = y.a then symEq op else xNil T op t x y
theorem xBin_ok {P : Program} {T : Tabs} (hT : TabOk P T) {C : Cx} {op : BinOp} {t : Nat} {a b : Operand} {x y z : AV} {v u : Value} (hx : RV C x v) (hy : RV C y u) (e : xBin P T op t a b x y = some z) : ∃ r, (do eqGuard op t a b v u; binOp op t v u : Sem Value).run P C.w = .ok r C.w ∧ RV C z r := by
  unfold xBin at e
  split at e
  · rename_i v' u' h1 h2
    obtain rfl := rv_exact hx h1
    obtain rfl := rv_exact hy h2
    obtain ⟨r, h3, rfl⟩ := Option.map_eq_some_iff.1 e
    exact ⟨r, pureRun_ok C.w _ h3, rv_ofV r⟩
  · split at e
    · rename_i h
      obtain ⟨e1, n, e2⟩ := (hx.hi (by omega)).int h.1
      obtain ⟨e3, _⟩ := (hy.hi (by omega)).int h.2.1
      rw [h.2.2, ← e3] at e1
      subst e2
      subst e1
      exact symEq_ok e a b
    · exact xNil_ok hT hx hy e a b
#print axioms xBin_ok
end Go.Proofs.YthklnpkjlepagaaGreatDoor.Ab
