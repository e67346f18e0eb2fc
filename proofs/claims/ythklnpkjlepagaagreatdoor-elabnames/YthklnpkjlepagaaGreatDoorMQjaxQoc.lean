/- Qja, Qob, Qoc: the texts of these names, one behind the other. -/
import Derived.Test.YthklnpkjlepagaaGreatDoorMQjxQk
import Derived.RangeFuncRecord
import Derived.RangeFuncCalls
import Derived.RangeFuncLeaves
import Derived.Test.YthklnpkjlepagaaGreatDoorQoa
import Derived.RangeFuncIn
namespace Go.Proofs.YthklnpkjlepagaaGreatDoor.Ab
open Go.RowKit
variable {S : Nat → Value}

/-- A block of which nothing is known. -/
structure Side (C : Cx) (l : Nat) (o : Obj) : Prop where
  at_ : C.w.heap[l]? = some o
  oth : C.Oth l
  z : ¬ C.Z l
theorem Side.lt {C : Cx} {l : Nat} {o : Obj} (h : Side C l o) : l < C.w.heap.size := by
  obtain ⟨h1, _⟩ := Array.getElem?_eq_some_iff.1 h.at_
  exact h1
theorem Side.goes {C C' : Cx} {l : Nat} {o : Obj} (h : Side C l o) (g : Goes C C') : Side C' l o := by
  obtain ⟨h1, h2⟩ := g.oth l h.lt h.oth
  exact ⟨h1.trans h.at_, h2, fun hz => h.z (g.zold l h.lt hz)⟩

/-- One context behind another one, but for the block l. -/
structure Gx (l : Nat) (C C' : Cx) : Prop where
  le : C.le C'
  ok : Ok C'
  s3 : Same3 C.w C'.w
  oth : ∀ k, k ≠ l → k < C.w.heap.size → C.Oth k → C'.w.heap[k]? = C.w.heap[k]? ∧ C'.Oth k
  zold : ∀ k, k < C.w.heap.size → C'.Z k → C.Z k
theorem Goes.gx {C C' : Cx} (g : Goes C C') (l : Nat) : Gx l C C' := ⟨g.le, g.ok, g.s3, fun k _ => g.oth k, g.zold⟩
theorem Gx.trans {l : Nat} {A B C : Cx} (h : Gx l A B) (g : Gx l B C) : Gx l A C where
  le := h.le.trans g.le
  ok := g.ok
  s3 := h.s3.trans g.s3
  oth k hl hk ho := by
    obtain ⟨h1, h2⟩ := h.oth k hl hk ho
    obtain ⟨g1, g2⟩ := g.oth k hl (Nat.lt_of_lt_of_le hk h.le.size) h2
    exact ⟨g1.trans h1, g2⟩
  zold k hk hz := h.zold k hk (g.zold k (Nat.lt_of_lt_of_le hk h.le.size) hz)
theorem Gx.goes {l : Nat} {C C' : Cx} (g : Gx l C C') (hl : C.w.heap.size ≤ l) : Goes C C' := ⟨g.le, g.ok, g.s3, fun k hk => g.oth k (by omega) hk, g.zold⟩
theorem Side.gx {C C' : Cx} {k l : Nat} {o : Obj} (h : Side C k o) (g : Gx l C C') (hk : k ≠ l) : Side C' k o := by
  obtain ⟨h1, h2⟩ := g.oth k hk h.lt h.oth
  exact ⟨h1.trans h.at_, h2, fun hz => h.z (g.zold k h.lt hz)⟩

/-- The block l turned. -/
def Cx.put (C : Cx) (l : Nat) (o : Obj) : Cx := { C with w := C.w.putObj l o }
theorem Side.put {C : Cx} {l : Nat} {o : Obj} (hC : Ok C) (h : Side C l o) (o' : Obj) (hn : o.isCells = false) : Gx l C (C.put l o') ∧ Side (C.put l o') l o' := by
  have hoth : ∀ k, k ≠ l → (C.put l o').w.heap[k]? = C.w.heap[k]? := fun k hk => World.putObj_heap_other hk
  have le : C.le (C.put l o') := ⟨fun _ h => h, fun _ _ => rfl, by show _ ≤ (C.w.putObj l o').heap.size; simp, fun k hk => ⟨⟨by show k < (C.w.putObj l o').heap.size; simpa using hk.1, hk.2⟩, hoth k fun e => h.z (e ▸ hk.2)⟩, fun k cs ty fr hk => ⟨cs, (hoth k fun e => by
    subst e
    rw [h.at_] at hk
    cases hk
    cases hn).trans hk, rfl⟩, rfl⟩
  refine ⟨⟨le, ⟨fun b B hb => ?_, hC.inj, hC.zone⟩, ⟨rfl, rfl, rfl⟩, fun k hk _ ho => ⟨hoth k hk, ho⟩, fun _ _ h => h⟩, World.putObj_heap_same h.lt, h.oth, h.z⟩
  obtain ⟨h1, h2⟩ := hC.blk b B hb
  exact ⟨h1, h2.mono le (hoth _ (h.oth b B hb))⟩

/-- A new block of which nothing is known. -/
def Cx.beside (C : Cx) (o : Obj) : Cx := { C with w := C.w.alloc o, Z := fun k => C.Z k ∧ k < C.w.heap.size }
theorem Ok.beside {C : Cx} (h : Ok C) (o : Obj) : Goes C (C.beside o) ∧ Side (C.beside o) C.w.heap.size o := by
  have le : C.le (C.beside o) := ⟨fun _ h => h, fun _ _ => rfl, by show _ ≤ (C.w.alloc _).heap.size; simp, fun k hk => ⟨⟨by show k < (C.w.alloc _).heap.size; have := hk.1; simp; omega, hk.2, hk.1⟩, Below.heap_alloc _ _ _ hk.1⟩, fun k cs t fr hk => ⟨cs, (Below.heap_alloc _ _ _ (size_of_block hk)).trans hk, rfl⟩, rfl⟩
  refine ⟨⟨le, ⟨fun b B hb => ?_, h.inj, fun b B hb hz => h.zone b B hb hz.1⟩, ⟨rfl, rfl, rfl⟩, fun k hk ho => ⟨Below.heap_alloc _ _ _ hk, ho⟩, fun k _ hz => hz.1⟩, heap_alloc_new _ _, fun b B hb e => ?_, fun hz => Nat.lt_irrefl _ hz.2⟩
  · obtain ⟨h1, h2⟩ := h.blk b B hb
    exact ⟨h1, h2.mono le (Below.heap_alloc _ _ _ h2.lt)⟩
  · have := h.lt hb
    have e : C.mu b = C.w.heap.size := e
    omega

/-- The mark that a range over a function leaves among the deferred calls. -/
def markD (D : Nat) : Deferred := { target := .collected D, args := #[] }
/-- None, or one. -/
def Marks (b : Nat) (C : Cx) (ds : List Deferred) : Prop := ds = [] ∨ ∃ D, b ≤ D ∧ ds = [markD D] ∧ Side C D (.deferred (some []))
theorem Marks.goes {b : Nat} {C C' : Cx} {ds : List Deferred} (h : Marks b C ds) (g : Goes C C') : Marks b C' ds := by
  rcases h with h | ⟨D, h0, h1, h2⟩
  · exact Or.inl h
  · exact Or.inr ⟨D, h0, h1, h2.goes g⟩

/-- What code must come to where a function ends. -/
def endPost (P : Program) (fn : Func) (R : Ending → World → Prop) : Exit → Act → World → Prop
  | .normal, a, w | .ret, a, w => (a.defers = [] ∧ ∃ v, (results fn a.tmps).run P w = .ok v w ∧ R (.returned v) w) ∨ ∃ D w', a.defers = [markD D] ∧ (Instr.takeDeferred D).run P w = .ok [] w' ∧ ∃ v, (results fn a.tmps).run P w' = .ok v w' ∧ R (.returned v) w'
  | _, _, _ => False
theorem calls_of_end {P : Program} {f : FuncId} {fn : Func} {c : Code} {args : Array Value} {w : World} {R : Ending → World → Prop} (hf : P.funcs[f]? = some fn) (hb : fn.body = some c)
    (h : c.wp P (endPost P fn R) { tmps := args ++ Array.replicate (fn.ntmps - args.size) undef, defers := [] } w) : Calls P f args w R := by
  have key : ∀ (a : Act) (w : World), ((a.defers = [] ∧ ∃ v, (results fn a.tmps).run P w = .ok v w ∧ R (.returned v) w) ∨ ∃ D w', a.defers = [markD D] ∧ (Instr.takeDeferred D).run P w = .ok [] w' ∧ ∃ v, (results fn a.tmps).run P w' = .ok v w' ∧ R (.returned v) w') → LeavesInM Fence.wide 0 P fn a.tmps R a.defers .returning w := by
    intro a w h
    rcases h with ⟨h1, h2⟩ | ⟨D, w', h1, h2, h3⟩
    · rw [h1]; exact h2
    · rw [h1]
      exact ⟨by simp, Or.inl ⟨D, w', rfl, h2, h3⟩⟩
  refine (callsIn_wide (n := 0)).1 (callsIn_of_wp_marks hf hb trivial (wpIn_wide.2 ?_))
  refine Code.wp_mono ?_ h
  intro e a w' he
  cases e with
  | normal => exact key a w' he
  | ret => exact key a w' he
  | exit id => exact he.elim
  | goto l => exact he.elim
  | panic ch => exact he.elim
  | outgrown => exact he.elim
end Go.Proofs.YthklnpkjlepagaaGreatDoor.Ab
namespace Go.Proofs.YthklnpkjlepagaaGreatDoor.Ab
open Go.RowKit
variable {S : Nat → Value}

/-- What is no defer statement is carried out in a round as everywhere. -/
def noDefer (o : Oper) : Bool := match o.op with
  | .defer _ => false
  | _ => true
theorem oper_in {P : Program} {o : Oper} {a : Act} {w : World} {K : Act → World → Prop} {Q : Exit → Act → World → Prop} {l n : Nat} (hd : noDefer o = true) (h : o.wp P a w K Q) : o.wpIn (Fence.wide.inRound l) n P a w K Q := by
  have hs : o.semAt (some l) a.eval = execOp a.eval o := Oper.semAt_some l a.eval o (fun c hc => by unfold noDefer at hd; rw [hc] at hd; cases hd)
  refine ⟨fun _ _ => trivial, ?_⟩
  show o.uponIn (Fence.wide.inRound l) n P a K Q ((o.semAt (some l) a.eval).run P w)
  rw [hs]
  unfold Oper.wp at h
  generalize (execOp a.eval o).run P w = r at h ⊢
  cases r with
  | ok r w' =>
    cases r with
    | value v => exact h
    | skip => exact h
    | defer d => exact h
    | enter f args => exact ⟨fun hh => (by cases hh), CallsIn.inRound l (callsIn_wide.2 h)⟩
    | row r args =>
      refine ⟨fun hh => (by cases hh), fun c cs _ => ?_⟩
      obtain ⟨v, w2, h1, h2⟩ := (show Rows P r args w' _ from h) c cs
      exact ⟨v, w2, h1, stepsIn_wide.2 h2⟩
    | _ => exact h.elim
  | halt k w' =>
    cases k with
    | panic v => exact h
    | _ => exact h.elim

theorem ordA_in {P : Program} {T : Tabs} (hT : TabOk P T) (hz : zeroB T = true) (hNum : noNum P = true) {call : CallA} (hcall : CallOk P T S call) (hbody : ∀ g args H n out, call g args H n = .ok out → hasBody P g = true) {N loc : Nat} {ops : Array Oper} {l n : Nat} :
    ∀ (os : List Oper) (i : Nat) (s s' : Sta), os.all noDefer = true → ordA P T call N loc ops os i s = .ok s' → Tid s s' ∧ ∀ {ds : List Deferred} (Q : Exit → Act → World → Prop) (C : Cx) (a : Act), StaOk ds C N s a → GOk T S C → FreeA C s.n s'.n →
      (∀ C' a', StaOk ds C' N s' a' → Goes C C' → NewA C C' s.n s'.n → Q .normal a' C'.w) → wpListIn (Fence.wide.inRound l) n P ops Q os a C.w
  | [], _, s, s', _, h => by
    simp only [ordA, Except.ok.injEq] at h
    subst h
    exact ⟨Tid.refl s, fun Q C a hs hG hF hQ => hQ C a hs (Goes.refl hs.ok) (newA_same rfl)⟩
  | o :: os, i, s, s', hd, h => by
    simp only [List.all_cons, Bool.and_eq_true] at hd
    simp only [ordA] at h
    obtain ⟨b, h1, h⟩ := bindR_ok h
    have h1 := orErr_ok h1
    cases b with
    | true =>
      simp only [if_true] at h
      obtain ⟨out, h2, h⟩ := bindR_ok h
      obtain ⟨t1, t2⟩ := opA_ok hT hz hNum hcall hbody h2
      obtain ⟨t3, t4⟩ := ordA_in hT hz hNum hcall hbody os (i + 1) _ s' hd.2 h
      refine ⟨Tid.trans (Tidy.tid t1) t3, fun Q C a hs hG hF hQ => ?_⟩
      simp only [wpListIn]
      rw [if_pos (wantedA_ok hs.fr h1)]
      refine oper_in hd.1 (t2 C a hs.H hs.bnd (fun b h1 h2 => hF b h1 (Nat.lt_of_lt_of_le h2 t3.le)) hs.ok hG hs.fr _ _ ?_)
      intro v C' k1 k2 k3 k4
      refine t4 Q C' _ ⟨k3, k2.ok, rf_put (RF.mono k2.le hs.fr) _ k1, (put_defers a _ _).trans hs.df, t1.bnd hs.bnd⟩ (hG.mono k2.le) (fun b h1 h2 h3 => ?_) (fun C2 a2 m1 m2 m3 => hQ C2 a2 m1 (k2.trans m2) (fun b hb => ?_))
      · rcases k4 b h3 with h4 | h4
        · exact hF b (Nat.le_trans t1.le h1) h2 h4
        · have h1 : out.n ≤ b := h1
          omega
      · have e1 : out.n ≤ s'.n := t3.le
        have e2 : s.n ≤ out.n := t1.le
        rcases m3 b hb with h | h
        · rcases k4 b h with h | h
          · exact Or.inl h
          · exact Or.inr (by omega)
        · have h : out.n ≤ b ∧ b < s'.n := h
          exact Or.inr (by omega)
    | false =>
      simp only [Bool.false_eq_true, if_false] at h
      obtain ⟨t3, t4⟩ := ordA_in hT hz hNum hcall hbody os (i + 1) _ s' hd.2 h
      refine ⟨Tid.trans (Tid.frame) t3, fun Q C a hs hG hF hQ => ?_⟩
      simp only [wpListIn]
      have hw := wantedA_ok hs.fr h1
      rw [if_neg (by rw [hw]; exact Bool.false_ne_true)]
      exact ⟨fun _ _ => trivial, t4 Q C _ ⟨hs.H, hs.ok, rf_put hs.fr _ rv_ex, (put_defers a _ _).trans hs.df, hs.bnd⟩ hG hF hQ⟩

/-- Code of a round: without regions that draw, loops, labels. -/
def execI (P : Program) (T : Tabs) (call : CallA) (N loc : Nat) : Code → Sta → R (Ex × Sta)
  | .skip, s => .ok (⟨0, 0⟩, s)
  | .region id ops d, s => if d || !(ops.toList.all noDefer) then .error (loc + 889) else bindR (ordA P T call N (loc + id * 1000) ops ops.toList 0 s) fun s' => .ok (⟨0, 0⟩, s')
  | .seq a b, s => bindR (execI P T call N loc a s) fun r => if r.1.k = 0 then execI P T call N loc b r.2 else .ok r
  | .cond c a b, s => bindR (orErr (loc + 777) (evO T s.fr c).bool) fun t => if t then execI P T call N loc a s else execI P T call N loc b s
  | .block id a, s => bindR (execI P T call N loc a s) fun r => if r.1.k = 1 ∧ r.1.id = id then .ok (⟨0, 0⟩, r.2) else .ok r
  | .exit id, s => .ok (⟨1, id⟩, s)
  | .ret, s => .ok (⟨3, 0⟩, s)
  | _, _ => .error (loc + 888)

/-- What is to be shown of it. -/
def ExecIn (P : Program) (T : Tabs) (S : Nat → Value) (N l n : Nat) (c : Code) (s : Sta) (e : Ex) (s' : Sta) : Prop :=
  Tid s s' ∧ ∀ {ds : List Deferred} (Q : Exit → Act → World → Prop) (C : Cx) (a : Act), StaOk ds C N s a → GOk T S C → FreeA C s.n s'.n → (∀ C' a', StaOk ds C' N s' a' → Goes C C' → NewA C C' s.n s'.n → Q e.to a' C'.w) → c.wpIn (Fence.wide.inRound l) n P Q a C.w

/-- A block catches its own exit. -/
theorem in_block {Q : Exit → Act → World → Prop} {id : Nat} {e1 e : Ex} {s1 s' : Sta} (h : (if e1.k = 1 ∧ e1.id = id then (.ok (⟨0, 0⟩, s1) : R (Ex × Sta)) else .ok (e1, s1)) = .ok (e, s')) {a : Act} {w : World} (hQ : Q e.to a w) : s' = s1 ∧ Exit.inBlock id Q e1.to a w := by
  split at h
  · rename_i h0
    cases h
    refine ⟨rfl, ?_⟩
    have : e1.to = .exit id := by unfold Ex.to; rw [if_neg (by rw [h0.1]; decide), if_pos h0.1, h0.2]
    rw [this]
    show (if id = id then _ else _)
    rw [if_pos rfl]
    exact hQ
  · rename_i h0
    cases h
    refine ⟨rfl, ?_⟩
    unfold Ex.to at hQ ⊢
    by_cases h2 : e1.k = 0
    · rw [if_pos h2] at hQ ⊢; exact hQ
    · rw [if_neg h2] at hQ ⊢
      by_cases h3 : e1.k = 1
      · rw [if_pos h3] at hQ ⊢
        show (if e1.id = id then _ else _)
        rw [if_neg fun h4 => h0 ⟨h3, h4⟩]
        exact hQ
      · rw [if_neg h3] at hQ ⊢
        by_cases h4 : e1.k = 2
        · rw [if_pos h4] at hQ ⊢; exact hQ
        · rw [if_neg h4] at hQ ⊢; exact hQ

theorem execI_ok {P : Program} {T : Tabs} (hT : TabOk P T) (hz : zeroB T = true) (hNum : noNum P = true) {call : CallA} (hcall : CallOk P T S call) (hbody : ∀ g args H n out, call g args H n = .ok out → hasBody P g = true) {N loc l n : Nat} :
    ∀ (c : Code) (s : Sta) (e : Ex) (s' : Sta), execI P T call N loc c s = .ok (e, s') → ExecIn P T S N l n c s e s'
  | .skip, s, e, s', h => by
    simp only [execI, Except.ok.injEq, Prod.mk.injEq] at h
    obtain ⟨rfl, rfl⟩ := h
    exact ⟨Tid.refl s, fun Q C a hs hG hF hQ => wpIn_skip (hQ C a hs (Goes.refl hs.ok) (newA_same rfl))⟩
  | .region id ops d, s, e, s', h => by
    simp only [execI] at h
    split at h
    · cases h
    · rename_i hd
      simp only [Bool.or_eq_true, Bool.not_eq_true', not_or, Bool.not_eq_true, Bool.not_eq_false] at hd
      obtain ⟨s1, h1, h⟩ := bindR_ok h
      simp only [Except.ok.injEq, Prod.mk.injEq] at h
      obtain ⟨rfl, rfl⟩ := h
      obtain ⟨rfl, hd⟩ := hd
      obtain ⟨t1, t2⟩ := ordA_in (l := l) (n := n) hT hz hNum hcall hbody _ _ _ _ hd h1
      exact ⟨t1, fun Q C a hs hG hF hQ => wpIn_region_list (t2 Q C a hs hG hF hQ)⟩
  | .seq x y, s, e, s', h => by
    simp only [execI] at h
    obtain ⟨⟨e1, s1⟩, h1, h⟩ := bindR_ok h
    obtain ⟨t1, t2⟩ := execI_ok hT hz hNum hcall hbody (l := l) (n := n) x s e1 s1 h1
    split at h
    · rename_i h0
      simp only at h0 h
      obtain ⟨t3, t4⟩ := execI_ok hT hz hNum hcall hbody (l := l) (n := n) y s1 e s' h
      refine ⟨t1.trans t3, fun Q C a hs hG hF hQ => wpIn_seq (t2 _ C a hs hG (hF.left t3.le) fun C1 a1 k1 k2 k3 => ?_)⟩
      have : e1.to = .normal := by unfold Ex.to; rw [if_pos h0]
      rw [this]
      exact t4 Q C1 a1 k1 (hG.mono k2.le) (hF.right k3 t1.le) fun C2 a2 m1 m2 m3 => hQ C2 a2 m1 (k2.trans m2) (k3.trans m3 t1.le t3.le)
    · rename_i h0
      simp only [Except.ok.injEq, Prod.mk.injEq] at h
      obtain ⟨rfl, rfl⟩ := h
      exact ⟨t1, fun Q C a hs hG hF hQ => wpIn_seq (t2 _ C a hs hG hF fun C1 a1 k1 k2 k3 => exit_cases h0 (hQ C1 a1 k1 k2 k3))⟩
  | .cond x a b, s, e, s', h => by
    simp only [execI] at h
    obtain ⟨t, h1, h⟩ := bindR_ok h
    have h1 := orErr_ok h1
    cases t with
    | true =>
      simp only [if_true] at h
      obtain ⟨t1, t2⟩ := execI_ok hT hz hNum hcall hbody (l := l) (n := n) a s e s' h
      exact ⟨t1, fun Q C ac hs hG hF hQ => wpIn_cond_true (rv_bool (rv_op hG hs.fr x) h1) (t2 Q C ac hs hG hF hQ)⟩
    | false =>
      simp only [Bool.false_eq_true, if_false] at h
      obtain ⟨t1, t2⟩ := execI_ok hT hz hNum hcall hbody (l := l) (n := n) b s e s' h
      exact ⟨t1, fun Q C ac hs hG hF hQ => wpIn_cond_false (rv_bool (rv_op hG hs.fr x) h1) (t2 Q C ac hs hG hF hQ)⟩
  | .block id x, s, e, s', h => by
    simp only [execI] at h
    obtain ⟨⟨e1, s1⟩, h1, h⟩ := bindR_ok h
    obtain ⟨t1, t2⟩ := execI_ok hT hz hNum hcall hbody (l := l) (n := n) x s e1 s1 h1
    have hs' : s' = s1 := (in_block (Q := fun _ _ _ => True) (a := ⟨#[], []⟩) (w := default) h trivial).1
    subst hs'
    exact ⟨t1, fun Q C a hs hG hF hQ => wpIn_block (t2 _ C a hs hG hF fun C1 a1 k1 k2 k3 => (in_block h (hQ C1 a1 k1 k2 k3)).2)⟩
  | .exit id, s, e, s', h => by
    simp only [execI, Except.ok.injEq, Prod.mk.injEq] at h
    obtain ⟨rfl, rfl⟩ := h
    exact ⟨Tid.refl s, fun Q C a hs hG hF hQ => wpIn_exit (hQ C a hs (Goes.refl hs.ok) (newA_same rfl))⟩
  | .ret, s, e, s', h => by
    simp only [execI, Except.ok.injEq, Prod.mk.injEq] at h
    obtain ⟨rfl, rfl⟩ := h
    exact ⟨Tid.refl s, fun Q C a hs hG hF hQ => wpIn_ret (hQ C a hs (Goes.refl hs.ok) (newA_same rfl))⟩
  | .loop _, s, e, s', h => by simp [execI] at h
  | .scope _, s, e, s', h => by simp [execI] at h
  | .label _, s, e, s', h => by simp [execI] at h
  | .goto _, s, e, s', h => by simp [execI] at h
  | .refuse _, s, e, s', h => by simp [execI] at h
  | .rangeFunc _ _ _ _, s, e, s', h => by simp [execI] at h
end Go.Proofs.YthklnpkjlepagaaGreatDoor.Ab
namespace Go.Proofs.YthklnpkjlepagaaGreatDoor.Ab
open Go.RowKit
variable {S : Nat → Value}

/-- The function it, of a box, hands the elements of the slice (its type: ts; its elements': te) in the box to yield, from the last to the first, with their places. -/
def BackOk (P : Program) (it ts te : Nat) : Prop := ∀ (l : Nat) (bx : Value) (m : Nat) (J : Nat → World → Prop) (Jx : World → Prop) (W : World), m < 4611686018427387904 → J m W →
  (∃ sl, (Instr.loadAt ts bx).run P W = .ok sl W ∧ ∀ ty, (Builtin.len_ #[ts] ty #[sl]).run P W = .ok (.int .i64 m) W) →
  (∀ (k : Nat) W1, k < m → J (k + 1) W1 → ∃ sl p v, (Instr.loadAt ts bx).run P W1 = .ok sl W1 ∧ (Instr.indexAt ts sl (.int .i64 k)).run P W1 = .ok p W1 ∧ (Instr.loadAt te p).run P W1 = .ok v W1 ∧
    YieldAt Fence.wide 0 P l #[.int .i64 k, v] W1 fun e W' => (e = .returned (.bool true) ∧ J k W') ∨ (e = .returned (.bool false) ∧ Jx W')) →
  CallsIn Fence.wide 0 P it #[.func (.yield l) #[] #[], bx] W fun e W' => (∃ v, e = .returned v) ∧ (J 0 W' ∨ Jx W')

def rfOf : Code → Option (Nat × Operand × Nat × Nat × Code × Code)
  | .block id (.rangeFunc g ⟨[p0, p1]⟩ x y) => some (id, g, p0, p1, x, y)
  | _ => none
theorem rfOf_eq {c : Code} {q : Nat × Operand × Nat × Nat × Code × Code} (h : rfOf c = some q) : c = .block q.1 (.rangeFunc q.2.1 #[q.2.2.1, q.2.2.2.1] q.2.2.2.2.1 q.2.2.2.2.2) := by
  unfold rfOf at h
  split at h
  · cases h; rfl
  · cases h

/-- The rounds that are to come: k of them. -/
def roundsA (P : Program) (T : Tabs) (call : CallA) (N loc ts te : Nat) (bx : AV) (p0 p1 : Nat) (x y : Code) (fr : Fr) : Nat → Sta → R (Ex × Sta)
  | 0, s => .ok (⟨0, 0⟩, s)
  | k + 1, s => bindR (orErr (loc + 701) (xLoad T s.H ts bx)) fun sl => bindR (orErr (loc + 702) (xIndexAddr T ts sl (AV.ex (.int .i64 ((k : Nat) : Int))))) fun p => bindR (orErr (loc + 703) (xLoad T s.H te p)) fun z =>
    bindR (execI P T call N loc x ⟨putA N (putA N fr (some p0) (AV.ex (.int .i64 ((k : Nat) : Int)))) (some p1) z, s.H, s.n, s.wr⟩) fun r1 => if r1.1.k = 0 then
      bindR (execI P T call N loc y r1.2) fun r2 => if r2.1.k = 0 then roundsA P T call N loc ts te bx p0 p1 x y fr k ⟨fr, r2.2.H, r2.2.n, r2.2.wr⟩ else .ok (r2.1, ⟨fr, r2.2.H, r2.2.n, r2.2.wr⟩)
    else .error (loc + 704)

/-- The box of the slice. -/
def boxOf (x : AV) : Option (Nat × AV) := if x.t = 9 then (match x.v, x.ks with
  | .func (.func it) _ _, [bx] => if x.a = 0 then some (it, bx) else none
  | _, _ => none) else none
theorem boxOf_ok {C : Cx} {x bx : AV} {v : Value} {it : Nat} (h : RV C x v) (e : boxOf x = some (it, bx)) : ∃ u, v = .func (.func it) #[] #[u] ∧ RV C bx u := by
  unfold boxOf at e
  split at e
  case isFalse => cases e
  rename_i h9
  split at e
  · rename_i it' f c bx' hv hks
    split at e
    · rename_i h0
      cases e
      obtain ⟨gg, first, cap, r1, r2, r3, r4⟩ := h.case.2.2.2.2.2.2.2.2.2.1 h9
      rw [hv] at r1
      cases r1
      rw [hks, h0] at r3 r4
      have e1 : first = #[] := by
        have : first.toList.length = 0 := by have := r3.len; simpa using this.symm
        simpa using this
      obtain ⟨w, hw, hr⟩ : ∃ w, cap = #[w] ∧ RV C bx w := by
        obtain ⟨l⟩ := cap
        match l, r4 with
        | [w], r4 => exact ⟨w, rfl, r4.1⟩
        | [], r4 => exact r4.elim
        | _ :: _ :: _, r4 => exact r4.2.elim
      rw [r2, e1, hw]
      exact ⟨w, rfl, hr⟩
    · cases e
  · cases e

def rangeA (P : Program) (T : Tabs) (call : CallA) (its : Nat → Option (Nat × Nat)) (N loc : Nat) (q : Nat × Operand × Nat × Nat × Code × Code) (s : Sta) : R (Ex × Sta) :=
  bindR (orErr (loc + 706) (boxOf (evO T s.fr q.2.1))) fun b => bindR (orErr (loc + 707) (its b.1)) fun t => bindR (orErr (loc + 708) (xLoad T s.H t.1 b.2)) fun sl => bindR (orErr (loc + 709) ((xLen T t.1 sl).bind AV.int)) fun m =>
    if 0 ≤ m ∧ m < 4611686018427387904 then bindR (roundsA P T call N loc t.1 t.2 b.2 q.2.2.1 q.2.2.2.1 q.2.2.2.2.1 q.2.2.2.2.2 s.fr m.toNat s) fun r => if r.1.k = 1 ∧ r.1.id = q.1 then .ok (⟨0, 0⟩, r.2) else .ok (r.1, r.2)
    else .error (loc + 710)

/-- The jump that is left when a round has gone. -/
def jumpOf (e : Ex) : Code := if e.k = 1 then .exit e.id else if e.k = 2 then .goto e.id else .ret
theorem jump_wp {P : Program} {n : Nat} {e : Ex} (h0 : e.k ≠ 0) {Q : Exit → Act → World → Prop} {a : Act} {w : World} (h : Q e.to a w) : (jumpOf e).wpIn Fence.wide n P Q a w := by
  unfold Ex.to at h
  unfold jumpOf
  rw [if_neg h0] at h
  split at h
  · rename_i h1; rw [if_pos h1]; exact wpIn_exit h
  · rename_i h1
    rw [if_neg h1]
    split at h
    · rename_i h2; rw [if_pos h2]; exact wpIn_goto h
    · rename_i h2; rw [if_neg h2]; exact wpIn_ret h
theorem jump_end {P : Program} {l : Nat} {R : Ending → World → Prop} {e : Ex} (h0 : e.k ≠ 0) {a : Act} {w : World} (h : ∃ v w', (Instr.endRound l (some (jumpOf e))).run P w = .ok v w' ∧ R (.returned v) w') : roundPost P l R e.to a w := by
  unfold Ex.to
  unfold jumpOf at h
  rw [if_neg h0]
  split
  · rename_i h1; rw [if_pos h1] at h; exact h
  · rename_i h1
    rw [if_neg h1] at h
    split
    · rename_i h2; rw [if_pos h2] at h; exact h
    · rename_i h2; rw [if_neg h2] at h; exact h

section
variable {P : Program} {T : Tabs} (hT : TabOk P T) (hz : zeroB T = true) (hNum : noNum P = true) {call : CallA} (hcall : CallOk P T S call) (hbody : ∀ g args H n out, call g args H n = .ok out → hasBody P g = true)
include hT hz hNum hcall hbody
theorem rounds_tid {N loc ts te : Nat} {bx : AV} {p0 p1 : Nat} {x y : Code} {fr : Fr} : ∀ (k : Nat) (s : Sta) (e : Ex) (s' : Sta), roundsA P T call N loc ts te bx p0 p1 x y fr k s = .ok (e, s') → Tid s s'
  | 0, s, e, s', h => by
    simp only [roundsA, Except.ok.injEq, Prod.mk.injEq] at h
    obtain ⟨_, rfl⟩ := h
    exact Tid.refl s
  | k + 1, s, e, s', h => by
    simp only [roundsA] at h
    obtain ⟨sl, _, h⟩ := bindR_ok h
    obtain ⟨p, _, h⟩ := bindR_ok h
    obtain ⟨z, _, h⟩ := bindR_ok h
    obtain ⟨⟨e1, s1⟩, h1, h⟩ := bindR_ok h
    split at h
    case isFalse => cases h
    obtain ⟨⟨e2, s2⟩, h2, h⟩ := bindR_ok h
    have t1 := (execI_ok (l := 0) (n := 0) hT hz hNum hcall hbody x _ e1 s1 h1).1
    have t2 := (execI_ok (l := 0) (n := 0) hT hz hNum hcall hbody y _ e2 s2 h2).1
    have t3 : Tid s ⟨fr, s2.H, s2.n, s2.wr⟩ := ((Tid.frame (s := s)).trans t1).trans (t2.trans Tid.frame)
    split at h
    · exact t3.trans (rounds_tid k _ e s' h)
    · simp only [Except.ok.injEq, Prod.mk.injEq] at h
      obtain ⟨_, rfl⟩ := h
      exact t3

theorem range_ok {its : Nat → Option (Nat × Nat)} (hits : ∀ it ts te, its it = some (ts, te) → BackOk P it ts te ∧ hasBody P it = true) {N loc : Nat} {q : Nat × Operand × Nat × Nat × Code × Code} {s s' : Sta} {e : Ex} (h : rangeA P T call its N loc q s = .ok (e, s')) :
    Tid s s' ∧ ∀ (b : Nat) (Q : Exit → Act → World → Prop) (C : Cx) (a : Act), StaOk [] C N s a → b ≤ C.w.heap.size → GOk T S C → FreeA C s.n s'.n → (∀ C' a' ds, StaOk ds C' N s' a' → Marks b C' ds → Goes C C' → NewA C C' s.n s'.n → Q e.to a' C'.w) → (Code.block q.1 (.rangeFunc q.2.1 #[q.2.2.1, q.2.2.2.1] q.2.2.2.2.1 q.2.2.2.2.2)).wp P Q a C.w := by
  obtain ⟨id, g, p0, p1, x, y⟩ := q
  unfold rangeA at h
  simp only at h ⊢
  obtain ⟨⟨it, bx⟩, b1, h⟩ := bindR_ok h
  obtain ⟨⟨ts, te⟩, b2, h⟩ := bindR_ok h
  obtain ⟨sl0, b3, h⟩ := bindR_ok h
  obtain ⟨mi, b4, h⟩ := bindR_ok h
  simp only at b1 b2 b3 b4 h
  have b1 := orErr_ok b1
  have b2 := orErr_ok b2
  have b3 := orErr_ok b3
  have b4 := orErr_ok b4
  split at h
  case isFalse => cases h
  rename_i hm
  obtain ⟨⟨e0, s1⟩, h1, h⟩ := bindR_ok h
  simp only at h
  have hs1 : s' = s1 := (in_block (Q := fun _ _ _ => True) (a := ⟨#[], []⟩) (w := default) h trivial).1
  subst hs1
  have ht := rounds_tid hT hz hNum hcall hbody _ _ _ _ h1
  refine ⟨ht, fun b Q C a hs hb hG hF hQ => ?_⟩
  obtain ⟨hback, hbd⟩ := hits _ _ _ b2
  obtain ⟨u, hv, hru⟩ := boxOf_ok (rv_op hG hs.fr g) b1
  refine (wpIn_wide (n := 0)).1 (wpIn_block (wpIn_rangeFunc fun fn _ => ?_))
  obtain ⟨rec, hrec⟩ : ∃ rec : LoopState → Option Code → Loop, rec = fun st pe => { state := st, pending := pe, fn, tmps := a.tmps, params := #[p0, p1], assign := x, body := y, defers := C.w.heap.size } := ⟨_, rfl⟩
  obtain ⟨g1, sD1⟩ := hs.ok.beside (.deferred (some []))
  obtain ⟨g2, sL2⟩ := g1.ok.beside (.loop (rec .ready none))
  have sD2 := sD1.goes g2
  have hsz : (C.beside (.deferred (some []))).w.heap.size = C.w.heap.size + 1 := by show (C.w.alloc _).heap.size = _; simp
  rw [hsz] at sL2
  obtain ⟨C2, hC2⟩ : ∃ C2, (C.beside (.deferred (some []))).beside (.loop (rec .ready none)) = C2 := ⟨_, rfl⟩
  have hw2 : C2.w = (C.w.alloc (.deferred (some []))).alloc (.loop (rec .ready none)) := by rw [← hC2]; rfl
  have hH2 : C2.H = C.H := by rw [← hC2]; rfl
  have hA2 : C2.A = C.A := by rw [← hC2]; rfl
  rw [hC2] at g2 sL2 sD2
  have g12 := g1.trans g2
  have hDl : C.w.heap.size ≠ C.w.heap.size + 1 := by omega
  refine ⟨C.w.heap.size + 1, [markD C.w.heap.size], C2.w, { target := .fn (.func it) #[u], args := #[.func (.yield (C.w.heap.size + 1)) #[] #[]] }, C2.w, it,
    #[.func (.yield (C.w.heap.size + 1)) #[] #[], u], C2.w, ?_, ?_, fun _ _ => trivial, ?_, fun hh => (by cases hh), ?_⟩
  · rw [hw2, hrec]; exact run_enterLoop_outer _ _ _ _ _
  · simp only [resolve]
    rw [hv]
    simp [go_sem]
  · unfold hasBody at hbd
    split at hbd
    · rename_i f hf
      obtain ⟨cd, hcd⟩ := Option.isSome_iff_exists.1 hbd
      have h9 := run_enter hNum hf hcd #[.func (.yield (C.w.heap.size + 1)) #[] #[], u] C2.w
      simp only [invoke]
      exact h9
    · cases hbd
  have hru2 := hru.mono g12.le
  obtain ⟨slv, k1, k2⟩ := xLoad_ok hT g12.ok (t := ts) hru2 (y := sl0) (by rw [hH2, hs.H]; exact b3)
  obtain ⟨li, k3, k4⟩ := Option.bind_eq_some_iff.1 b4
  refine (hback (C.w.heap.size + 1) u mi.toNat
    (fun k W => ∃ (sk : Sta) (Ck : Cx), roundsA P T call N loc ts te bx p0 p1 x y s.fr k sk = .ok (e0, s') ∧ sk.fr = s.fr ∧ Ck.w = W ∧ Gx (C.w.heap.size + 1) C2 Ck ∧ Side Ck (C.w.heap.size + 1) (.loop (rec .ready none)) ∧ Side Ck C.w.heap.size (.deferred (some [])) ∧ Ck.H = sk.H ∧ HB sk.H sk.n ∧ NewA C Ck s.n sk.n ∧ s.n ≤ sk.n)
    (fun W => ∃ (Ck : Cx), s'.fr = s.fr ∧ e0.k ≠ 0 ∧ Ck.w = W ∧ Gx (C.w.heap.size + 1) C2 Ck ∧ Side Ck (C.w.heap.size + 1) (.loop (rec .done (some (jumpOf e0)))) ∧ Side Ck C.w.heap.size (.deferred (some [])) ∧ Ck.H = s'.H ∧ HB s'.H s'.n ∧ NewA C Ck s.n s'.n)
    C2.w (by omega) ⟨s, C2, h1, rfl, rfl, (Goes.refl g12.ok).gx _, sL2, sD2, hH2.trans hs.H, hs.bnd, newA_same hA2, Nat.le_refl _⟩ ⟨slv, k1, fun ty => ?_⟩ ?_).mono ?_
  · obtain ⟨r, r1, r2⟩ := xLen_ok (P := P) (t := ts) (ty := ty) (ts := #[ts]) (vs := #[slv]) hT k2 rfl rfl k3
    obtain ⟨kk, hkk⟩ := rv_int r2 k4
    have hi : li = AV.ex (.int .i64 mi) := by
      unfold xLen at k3
      obtain ⟨ti, _, k3⟩ := Option.bind_eq_some_iff.1 k3
      unfold AV.int at k4
      repeat' split at k3
      all_goals first
        | (cases k3; done)
        | (cases k3; simp [AV.ex] at k4; rw [← k4])
    have : r = .int .i64 mi := by
      rw [hi] at r2
      exact (rv_exact r2 rfl)
    rw [r1, this, Int.toNat_of_nonneg hm.1]
  · rintro k W1 hk ⟨sk, Ck, hr, hfr, rfl, gk, sLk, sDk, hHk, hBk, hNk, hlk⟩
    simp only [roundsA] at hr
    obtain ⟨sl, c1, hr⟩ := bindR_ok hr
    obtain ⟨p, c2, hr⟩ := bindR_ok hr
    obtain ⟨z, c3, hr⟩ := bindR_ok hr
    have c1 := orErr_ok c1
    have c2 := orErr_ok c2
    have c3 := orErr_ok c3
    rw [← hHk] at c1 c3
    obtain ⟨⟨e1, s1⟩, c4, hr⟩ := bindR_ok hr
    split at hr
    case isFalse => cases hr
    rename_i he1
    obtain ⟨⟨e2, s2⟩, c5, hr⟩ := bindR_ok hr
    simp only at he1 hr c5
    have le1 := g12.le.trans gk.le
    obtain ⟨slv1, d1, d2⟩ := xLoad_ok hT gk.ok (hru.mono le1) c1
    obtain ⟨pv, d3, d4⟩ := xIndexAddr_ok hT d2 (rv_ex (C := Ck) (v := .int .i64 ((k : Nat) : Int))) c2
    obtain ⟨zv, d5, d6⟩ := xLoad_ok hT gk.ok d4 c3
    have hy := run_yield (P := P) (args := #[.int .i64 ((k : Nat) : Int), zv]) sLk.at_ (by rw [hrec]; rfl)
    have hq : (rec .ready none).fn = fn ∧ (rec .ready none).assign = x ∧ (rec .ready none).body = y := by rw [hrec]; exact ⟨rfl, rfl, rfl⟩
    rw [hq.1, hq.2.1, hq.2.2] at hy
    refine ⟨slv1, pv, zv, d1, d3, d5, fn, _, x, y, hy, roundIn_of_wpIn trivial ?_⟩
    have hfin : Tid s1 s2 ∧ s2.n ≤ s'.n ∧ (e2.k = 0 → roundsA P T call N loc ts te bx p0 p1 x y s.fr k ⟨s.fr, s2.H, s2.n, s2.wr⟩ = .ok (e0, s')) ∧ (e2.k ≠ 0 → e0 = e2 ∧ s' = ⟨s.fr, s2.H, s2.n, s2.wr⟩) := by
      refine ⟨(execI_ok (l := 0) (n := 0) hT hz hNum hcall hbody y _ e2 s2 c5).1, ?_, fun h0 => ?_, fun h0 => ?_⟩
      · split at hr
        · exact (rounds_tid hT hz hNum hcall hbody _ _ _ _ hr).le
        · simp only [Except.ok.injEq, Prod.mk.injEq] at hr
          obtain ⟨_, rfl⟩ := hr
          exact Nat.le_refl _
      · rw [if_pos h0] at hr; exact hr
      · rw [if_neg h0] at hr
        simp only [Except.ok.injEq, Prod.mk.injEq] at hr
        exact ⟨hr.1.symm, hr.2.symm⟩
    obtain ⟨t2, hn2, hgo, hstop⟩ := hfin
    have t1 := (execI_ok (l := 0) (n := 0) hT hz hNum hcall hbody x _ e1 s1 c4).1
    have hF1 : FreeA Ck sk.n s'.n := hF.right hNk hlk
    have l1 : sk.n ≤ s1.n := t1.le
    have l2 : s1.n ≤ s2.n := t2.le
    have hRF : RF Ck N (putA N (putA N s.fr (some p0) (AV.ex (.int .i64 ((k : Nat) : Int)))) (some p1) z) ((({ tmps := a.tmps, defers := [] } : Act).put (some p0) (.int .i64 ((k : Nat) : Int))).put (some p1) zv) :=
      rf_put (rf_put (a := { tmps := a.tmps, defers := [] }) ⟨(hs.fr.mono le1).size, (hs.fr.mono le1).at_⟩ (some p0) rv_ex) (some p1) d6
    have hact : ({ tmps := ((rec .ready none).params.zip #[Value.int .i64 ((k : Nat) : Int), zv]).foldl (fun tmps (t, a) => tmps.setIfInBounds t a) (rec .ready none).tmps, defers := [] } : Act) = ((({ tmps := a.tmps, defers := [] } : Act).put (some p0) (.int .i64 ((k : Nat) : Int))).put (some p1) zv) := by
      rw [hrec]
      simp [Act.put]
    rw [hact]
    refine (execI_ok (l := C.w.heap.size + 1) (n := 0) hT hz hNum hcall hbody x _ e1 s1 c4).2 (ds := []) _ Ck _ ⟨hHk, gk.ok, hRF, rfl, hBk⟩ (hG.mono le1) (hF1.left (by omega)) fun C3 a3 m1 m2 m3 => ?_
    have hz1 : e1.to = .normal := by unfold Ex.to; rw [if_pos he1]
    rw [hz1]
    have sL3 := sLk.goes m2
    refine ⟨_, run_beginRound sL3.at_ (by rw [hrec]), ?_⟩
    obtain ⟨g4, sL4⟩ := sL3.put m2.ok (.loop { rec .ready none with state := .busy }) rfl
    have le4 := (le1.trans m2.le).trans g4.le
    have hF2 : FreeA (C3.put (C.w.heap.size + 1) (.loop { rec .ready none with state := .busy })) s1.n s'.n := hF1.right m3 l1
    refine (execI_ok (l := C.w.heap.size + 1) (n := 0) hT hz hNum hcall hbody y _ e2 s2 c5).2 (ds := []) _ (C3.put (C.w.heap.size + 1) (.loop { rec .ready none with state := .busy })) a3 ⟨m1.H, g4.ok, RF.mono g4.le m1.fr, m1.df, m1.bnd⟩ (hG.mono le4) (hF2.left hn2) fun C5 a5 n1 n2 n3 => ?_
    have sL5 := sL4.goes n2
    have sD5 : Side C5 C.w.heap.size (.deferred (some [])) := (((sDk.goes m2).gx g4 hDl)).goes n2
    have g5 : Gx (C.w.heap.size + 1) C2 C5 := ((gk.trans (m2.gx _)).trans g4).trans (n2.gx _)
    have hN5 : NewA C C5 s.n s2.n := (hNk.trans m3 hlk l1).trans n3 (Nat.le_trans hlk l1) l2
    by_cases h0 : e2.k = 0
    · have hz2 : e2.to = .normal := by unfold Ex.to; rw [if_pos h0]
      rw [hz2]
      obtain ⟨g6, sL6⟩ := sL5.put n2.ok (.loop (rec .ready none)) rfl
      refine ⟨_, _, run_endRound none sL5.at_, Or.inl ⟨rfl, ⟨s.fr, s2.H, s2.n, s2.wr⟩, C5.put (C.w.heap.size + 1) (.loop (rec .ready none)), hgo h0, rfl, ?_, g5.trans g6, sL6, sD5.gx g6 hDl, n1.H, n1.bnd, hN5, by show s.n ≤ s2.n; omega⟩⟩
      rw [hrec]; rfl
    · obtain ⟨rfl, rfl⟩ := hstop h0
      refine jump_end h0 ?_
      obtain ⟨g6, sL6⟩ := sL5.put n2.ok (.loop (rec .done (some (jumpOf e0)))) rfl
      refine ⟨_, _, run_endRound (some (jumpOf e0)) sL5.at_, Or.inr ⟨rfl, C5.put (C.w.heap.size + 1) (.loop (rec .done (some (jumpOf e0)))), rfl, h0, ?_, g5.trans g6, sL6, sD5.gx g6 hDl, n1.H, n1.bnd, hN5⟩⟩
      rw [hrec]; rfl
  · have hend : ∀ (C6 : Cx), s'.fr = s.fr → Gx (C.w.heap.size + 1) C2 C6 → Side C6 C.w.heap.size (.deferred (some [])) → C6.H = s'.H → HB s'.H s'.n → NewA C C6 s.n s'.n → Exit.inBlock id Q e0.to { a with defers := [markD C.w.heap.size] ++ a.defers } C6.w := by
      intro C6 hfr g6 sD6 hH6 hB6 hN6
      refine (in_block h (hQ C6 _ [markD C.w.heap.size] ⟨hH6, g6.ok, ?_, by rw [hs.df]; rfl, hB6⟩ (Or.inr ⟨_, hb, rfl, sD6⟩) ((((g12.gx (C.w.heap.size + 1)).trans g6)).goes (by omega)) hN6)).2
      rw [hfr]
      have := hs.fr.mono (g12.le.trans g6.le)
      exact ⟨this.size, this.at_⟩
    rintro en W2 ⟨⟨v, rfl⟩, hJ⟩
    rcases hJ with ⟨sk, Ck, hr, hfr, rfl, gk, sLk, sDk, hHk, hBk, hNk, hlk⟩ | ⟨Ck, hfr, h0, rfl, gk, sLk, sDk, hHk, hBk, hNk⟩
    · simp only [roundsA, Except.ok.injEq, Prod.mk.injEq] at hr
      obtain ⟨he0, rfl⟩ := hr
      obtain ⟨g6, sL6⟩ := sLk.put gk.ok (.loop { rec .ready none with state := .exhausted }) rfl
      refine ⟨none, (Ck.put (C.w.heap.size + 1) (.loop { rec .ready none with state := .exhausted })).w, ?_, ?_⟩
      · have := run_endLoop (P := P) sLk.at_ (by rw [hrec]; simp)
        rw [hrec] at this ⊢
        exact this
      · have := hend _ hfr (gk.trans g6) (sDk.gx g6 hDl) hHk hBk hNk
        rw [← he0] at this
        exact this
    · obtain ⟨g6, sL6⟩ := sLk.put gk.ok (.loop { rec .done (some (jumpOf e0)) with state := .exhausted }) rfl
      refine ⟨some (jumpOf e0), (Ck.put (C.w.heap.size + 1) (.loop { rec .done (some (jumpOf e0)) with state := .exhausted })).w, ?_, ?_⟩
      · have := run_endLoop (P := P) sLk.at_ (by rw [hrec]; simp)
        rw [hrec] at this ⊢
        exact this
      · exact jump_wp h0 (hend _ hfr (gk.trans g6) (sDk.gx g6 hDl) hHk hBk hNk)
end
end Go.Proofs.YthklnpkjlepagaaGreatDoor.Ab
