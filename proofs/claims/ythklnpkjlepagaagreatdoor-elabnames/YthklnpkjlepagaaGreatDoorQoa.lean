/- Code, functions: one run that is reckoned stands for all. -/
import Derived.Test.YthklnpkjlepagaaGreatDoorQqa
import Derived.LoopN
import Derived.Scope
namespace Go.Proofs.YthklnpkjlepagaaGreatDoor.Ab
open Go.RowKit
variable {S : Nat → Value}

/-- How code ends: k 0: it goes on; 1: out of the block id; 2: to the label id; 3: the function returns. -/
structure Ex where
  k : Nat
  id : Nat
def Ex.to (e : Ex) : Exit := if e.k = 0 then .normal else if e.k = 1 then .exit e.id else if e.k = 2 then .goto e.id else .ret

def loopA (body : Sta → R (Ex × Sta)) : Nat → Sta → R (Ex × Sta)
  | 0, _ => .error 1
  | k + 1, s => bindR (body s) fun r => if r.1.k = 0 then loopA body k r.2 else .ok r

def regionA (P : Program) (T : Tabs) (call : CallA) (N loc : Nat) (ops : Array Oper) (d : Bool) (s : Sta) : R Sta :=
  if d then match coinOf ops with
  | some c => orErr (loc + 650) (coinRun T N c s)
  | none => match litOf T N ops with
    | some c => litA P T call N loc c ops s
    | none => bindR (drawGo P T call N loc ops ops.toList (planOf ops (bits ops)) 0 s []) fun q => if !q.2.2 || watchB s.H q.1 then .ok q.2.1 else .error (loc + 600)
  else ordA P T call N loc ops ops.toList 0 s

def codeOk : Code → Bool
  | .region _ ops d => !d || regOk ops
  | .seq a b => codeOk a && codeOk b
  | .cond _ a b => codeOk a && codeOk b
  | .block _ a => codeOk a
  | .loop a => codeOk a
  | .scope a => codeOk a
  | _ => true

/-- Two frames: what is the same in both. -/
def meetGo (N : Nat) (f g : Fr) : Nat → Fr → Fr
  | 0, r => r
  | k + 1, r => meetGo N f g k (putA N r (some k) (if eqAV 60 (f.get k) (g.get k) = true then f.get k else AV.any))
def meetF (N : Nat) (f g : Fr) : Fr := meetGo N f g N (Fr.all AV.any)
theorem all_get (x : AV) (t : Nat) : (Fr.all x).get t = x ∨ (Fr.all x).get t = AV.any := by
  unfold Fr.get rdC
  split
  · exact Or.inl (slot_all _ _)
  · exact Or.inr rfl
theorem meetGo_get (N : Nat) (f g : Fr) : ∀ (k : Nat) (r : Fr) (t : Nat), (∀ t, r.get t = AV.any ∨ (r.get t = f.get t ∧ r.get t = g.get t)) → (meetGo N f g k r).get t = AV.any ∨ ((meetGo N f g k r).get t = f.get t ∧ (meetGo N f g k r).get t = g.get t)
  | 0, r, t, h => h t
  | k + 1, r, t, h => by
    refine meetGo_get N f g k _ t fun u => ?_
    rw [putA_get]
    split
    · rename_i hu
      have : k = u := Option.some.inj hu.1
      subst this
      split
      · rename_i he
        exact Or.inr ⟨rfl, eqAV_eq 60 _ _ he⟩
      · exact Or.inl rfl
    · exact h u
theorem meetF_get (N : Nat) (f g : Fr) (t : Nat) : (meetF N f g).get t = AV.any ∨ ((meetF N f g).get t = f.get t ∧ (meetF N f g).get t = g.get t) := by
  refine meetGo_get N f g N _ t fun u => ?_
  rcases all_get AV.any u with h | h <;> exact Or.inl h
theorem rf_meet1 {C : Cx} {N : Nat} {f g : Fr} {a : Act} (h : RF C N f a) : RF C N (meetF N f g) a := ⟨h.size, fun t => by
  rcases meetF_get N f g t with e | e
  · rw [e]; exact rv_any
  · rw [e.1]; exact h.at_ t⟩
theorem rf_meet2 {C : Cx} {N : Nat} {f g : Fr} {a : Act} (h : RF C N g a) : RF C N (meetF N f g) a := ⟨h.size, fun t => by
  rcases meetF_get N f g t with e | e
  · rw [e]; exact rv_any
  · rw [e.2]; exact h.at_ t⟩
def eqO (x y : Option Blk) : Bool := match x, y with
  | none, none => true
  | some B, some B' => decide (B.ty = B'.ty) && (decide (B.cs.length = B'.cs.length) && (B.cs.zip B'.cs).all fun p => eqAV 60 p.1 p.2)
  | _, _ => false
theorem eqO_eq {x y : Option Blk} (h : eqO x y = true) : x = y := by
  unfold eqO at h
  split at h
  · rfl
  · rename_i B B'
    simp only [Bool.and_eq_true, decide_eq_true_eq] at h
    obtain ⟨h1, h2, h3⟩ := h
    obtain ⟨ty, cs⟩ := B
    obtain ⟨ty', cs'⟩ := B'
    simp only at h1 h2 h3
    rw [h1, zip_eq (fun q hq => eqAV_eq 60 q.1 q.2 hq) _ _ h2 h3]
  · cases h
/-- Two ways that come to the same. -/
def joinA (N loc n0 : Nat) (p q : Ex × Sta) : R (Ex × Sta) :=
  if p.1.k = q.1.k ∧ p.1.id = q.1.id ∧ p.2.n = q.2.n ∧ p.2.wr % 2 ^ n0 = q.2.wr % 2 ^ n0 ∧ ((bitsL p.2.wr ++ List.range' n0 (p.2.n - n0)).all fun b => eqO (p.2.H.get b) (q.2.H.get b)) = true then .ok (p.1, ⟨meetF N p.2.fr q.2.fr, p.2.H, p.2.n, p.2.wr⟩) else .error (loc + 778)
def condA (N loc n0 : Nat) (x : AV) (ra rb : R (Ex × Sta)) : R (Ex × Sta) := match x.bool with
  | some t => if t then ra else rb
  | none => if x.t = 17 then bindR ra fun p => bindR rb fun q => joinA N loc n0 p q else .error (loc + 777)
theorem joinA_ok {N loc : Nat} {s : Sta} {p q r : Ex × Sta} (tp : Tid s p.2) (tq : Tid s q.2) (h : joinA N loc s.n p q = .ok r) : r.1 = p.1 ∧ r.1 = q.1 ∧ r.2 = ⟨meetF N p.2.fr q.2.fr, p.2.H, p.2.n, p.2.wr⟩ ∧ q.2.n = p.2.n ∧ (HB s.H s.n → ∀ b, q.2.H.get b = p.2.H.get b) := by
  unfold joinA at h
  split at h
  case isFalse => cases h
  rename_i hc
  obtain ⟨h1, h2, h3, h4, h5⟩ := hc
  simp only [Except.ok.injEq] at h
  subst h
  obtain ⟨⟨k1, i1⟩, s1⟩ := p
  obtain ⟨⟨k2, i2⟩, s2⟩ := q
  simp only at h1 h2 h3 h4 h5 tp tq ⊢
  subst h1; subst h2
  refine ⟨trivial, rfl, trivial, h3.symm, fun hB b => ?_⟩
  have h6 := fun b hb => eqO_eq (List.all_eq_true.1 h5 b hb)
  by_cases hb : s1.wr.testBit b = true
  · exact (h6 b (List.mem_append_left _ (mem_bitsL.2 hb))).symm
  · have hb : s1.wr.testBit b = false := by simpa using hb
    rcases Nat.lt_or_ge b s.n with hlt | hge
    · rw [tp.keep hB b hlt hb, tq.keep hB b hlt (by
        have := congrArg (fun x => x.testBit b) h4
        simpa [Nat.testBit_mod_two_pow, hlt, hb] using this)]
    · rcases Nat.lt_or_ge b s1.n with h7 | h7
      · exact (h6 b (List.mem_append_right _ (List.mem_range'_1.2 ⟨hge, by omega⟩))).symm
      · have e1 : s1.H.get b = none := by
          cases h8 : s1.H.get b with
          | none => rfl
          | some B => have := tp.bnd hB b B h8; omega
        have e2 : s2.H.get b = none := by
          cases h8 : s2.H.get b with
          | none => rfl
          | some B => have := tq.bnd hB b B h8; omega
        rw [e1, e2]
/-- Has code this label, outside of what it holds? -/
def hasL (l : Nat) : Code → Bool
  | .seq a b => hasL l a || hasL l b
  | .label l' => Nat.beq l' l
  | _ => false
theorem hasL_some {l : Nat} : ∀ {c : Code}, hasL l c = true → ∃ r, findLabel c l = some r
  | .seq a b, h => by
    simp only [hasL, Bool.or_eq_true] at h
    simp only [findLabel]
    cases ha : findLabel a l with
    | some r => exact ⟨_, rfl⟩
    | none =>
      rcases h with h | h
      · obtain ⟨r, hr⟩ := hasL_some h
        rw [ha] at hr; cases hr
      · exact hasL_some h
  | .label l', h => by
    have h : Nat.beq l' l = true := h
    simp only [findLabel]
    rw [Nat.eq_of_beq_eq_true h]
    simp
theorem hasL_none {l : Nat} : ∀ {c : Code}, hasL l c = false → findLabel c l = none
  | .seq a b, h => by
    simp only [hasL, Bool.or_eq_false_iff] at h
    simp only [findLabel, hasL_none h.1, hasL_none h.2]
  | .label l', h => by
    have h : Nat.beq l' l = false := h
    have : ¬ l' = l := fun e => by rw [e, Nat.beq_refl] at h; cases h
    simp [findLabel, this]
  | .skip, _ => rfl
  | .region _ _ _, _ => rfl
  | .cond _ _ _, _ => rfl
  | .block _ _, _ => rfl
  | .loop _, _ => rfl
  | .rangeFunc _ _ _ _, _ => rfl
  | .exit _, _ => rfl
  | .scope _, _ => rfl
  | .goto _, _ => rfl
  | .ret, _ => rfl
  | .refuse _, _ => rfl

/-- A scope: its body, from its head or from a label; again, where it goes to a label of its own. -/
def scopeA (a : Code) (g : Option Nat → Sta → R (Ex × Sta)) : Nat → Option Nat → Sta → R (Ex × Sta)
  | 0, _, _ => .error 1
  | k + 1, m, s => bindR (g m s) fun r => if r.1.k = 2 ∧ hasL r.1.id a = true then scopeA a g k (some r.1.id) r.2 else .ok r

/-- Code, from its head or from a label. -/
def execP (P : Program) (T : Tabs) (call : CallA) (N lk loc : Nat) : Code → Option Nat → Sta → R (Ex × Sta)
  | .skip, none, s => .ok (⟨0, 0⟩, s)
  | .label _, _, s => .ok (⟨0, 0⟩, s)
  | .region id ops d, none, s => bindR (regionA P T call N (loc + id * 1000) ops d s) fun s' => .ok (⟨0, 0⟩, s')
  | .seq a b, none, s => bindR (execP P T call N lk loc a none s) fun r => if r.1.k = 0 then execP P T call N lk loc b none r.2 else .ok r
  | .seq a b, some l, s => if hasL l a then bindR (execP P T call N lk loc a (some l) s) fun r => if r.1.k = 0 then execP P T call N lk loc b none r.2 else .ok r else execP P T call N lk loc b (some l) s
  | .cond c a b, none, s => condA N loc s.n (evO T s.fr c) (execP P T call N lk loc a none s) (execP P T call N lk loc b none s)
  | .block id a, none, s => bindR (execP P T call N lk loc a none s) fun r => if r.1.k = 1 ∧ r.1.id = id then .ok (⟨0, 0⟩, r.2) else .ok r
  | .loop a, none, s => loopA (fun s => execP P T call N lk loc a none s) lk s
  | .exit id, none, s => .ok (⟨1, id⟩, s)
  | .goto l, none, s => .ok (⟨2, l⟩, s)
  | .scope a, none, s => scopeA a (fun m s => execP P T call N lk loc a m s) lk none s
  | .ret, none, s => .ok (⟨3, 0⟩, s)
  | _, _, _ => .error (loc + 888)
abbrev execA (P : Program) (T : Tabs) (call : CallA) (N lk loc : Nat) (c : Code) (s : Sta) : R (Ex × Sta) := execP P T call N lk loc c none s

theorem NewA.trans {A B C : Cx} {n m k : Nat} (h : NewA A B n m) (g : NewA B C m k) (h1 : n ≤ m) (h2 : m ≤ k) : NewA A C n k := fun b hb => by
  rcases g b hb with hb | hb
  · rcases h b hb with hb | hb
    · exact Or.inl hb
    · exact Or.inr (by omega)
  · exact Or.inr (by omega)
theorem FreeA.left {A : Cx} {n m k : Nat} (h : FreeA A n k) (h2 : m ≤ k) : FreeA A n m := fun b h1 h3 => h b h1 (by omega)
theorem FreeA.right {A B : Cx} {n m k : Nat} (h : FreeA A n k) (g : NewA A B n m) (h1 : n ≤ m) : FreeA B m k := fun b h2 h3 h4 => by
  rcases g b h4 with h5 | h5
  · exact h b (by omega) h3 h5
  · omega

/-- What is to be shown of code. -/
def ExecOk (P : Program) (T : Tabs) (S : Nat → Value) (N : Nat) (c : Code) (s : Sta) (e : Ex) (s' : Sta) : Prop :=
  Tid s s' ∧ ∀ {ds : List Deferred} (Q : Exit → Act → World → Prop) (C : Cx) (a : Act), StaOk ds C N s a → GOk T S C → FreeA C s.n s'.n → (∀ C' a', StaOk ds C' N s' a' → Goes C C' → NewA C C' s.n s'.n → Q e.to a' C'.w) → c.wp P Q a C.w

section
variable {P : Program} {T : Tabs} (hT : TabOk P T) (hz : zeroB T = true) (hNum : noNum P = true) (hm : P.follows .mixedOrders = true) {call : CallA} (hcall : CallOk P T S call) (hbody : ∀ g args H n out, call g args H n = .ok out → hasBody P g = true)

theorem StaOk.refl_goes {ds : List Deferred} {C : Cx} {N : Nat} {s : Sta} {a : Act} (h : StaOk ds C N s a) : Goes C C := Goes.refl h.ok

theorem exit_cases {Q : Exit → Act → World → Prop} {K : Act → World → Prop} {e : Ex} {a : Act} {w : World} (h0 : e.k ≠ 0) (h : Q e.to a w) : Exit.then K Q e.to a w := by
  unfold Ex.to at h ⊢
  rw [if_neg h0] at h ⊢
  split at h
  · rename_i h1; rw [if_pos h1]; exact h
  · rename_i h1
    rw [if_neg h1]
    split at h
    · rename_i h2; rw [if_pos h2]; exact h
    · rename_i h2; rw [if_neg h2]; exact h

/-- The rest of a scope's body, within it. -/
def ScopeWp (P : Program) (c rest : Code) (Q : Exit → Act → World → Prop) (a : Act) (w : World) : Prop := ∀ b k cs, ∃ e a' w', Q e a' w' ∧ Arrives P (lone (b.at a (.code rest :: .inScope c :: k)) cs w) b k cs e a' w'
/-- What is asked of a body's end. -/
def scopeQ (P : Program) (c : Code) (Q : Exit → Act → World → Prop) (e : Exit) (a : Act) (w : World) : Prop := match e with
  | .goto l => (∃ r, findLabel c l = some r ∧ ScopeWp P c r Q a w) ∨ (findLabel c l = none ∧ Q (.goto l) a w)
  | e => Q e a w
theorem scopeWp_of {P : Program} {c rest : Code} {Q : Exit → Act → World → Prop} {a : Act} {w : World} (h : rest.wp P (scopeQ P c Q) a w) : ScopeWp P c rest Q a w := by
  intro b k cs
  obtain ⟨e, a₁, w₁, hq, harr⟩ := h b (.inScope c :: k) cs
  cases e with
  | normal => exact ⟨.normal, a₁, w₁, hq, Steps.trans harr (.one step_inScope)⟩
  | exit id => exact ⟨.exit id, a₁, w₁, hq, fun k' hk => harr k' (by simp [exitTo, hk])⟩
  | goto l =>
    rcases hq with ⟨r, hr, hs⟩ | ⟨hn, hq⟩
    · have hg : gotoIn l (.inScope c :: k) = some (.code r :: .inScope c :: k) := by simp [gotoIn, hr]
      obtain ⟨e₂, a₂, w₂, hq₂, harr₂⟩ := hs b k cs
      exact ⟨e₂, a₂, w₂, hq₂, .of_steps (harr _ hg) harr₂⟩
    · exact ⟨.goto l, a₁, w₁, hq, fun k' hk => harr k' (by simp [gotoIn, hn, hk])⟩
  | ret => exact ⟨_, a₁, w₁, hq, harr⟩
  | panic ch => exact ⟨_, a₁, w₁, hq, harr⟩
  | outgrown => exact ⟨_, a₁, w₁, hq, harr⟩
theorem wp_scope_of {P : Program} {c : Code} {Q : Exit → Act → World → Prop} {a : Act} {w : World} (h : c.wp P (scopeQ P c Q) a w) : (Code.scope c).wp P Q a w := by
  intro b k cs
  obtain ⟨e, a', w', hq, harr⟩ := scopeWp_of h b k cs
  exact ⟨e, a', w', hq, .of_steps (.one step_scope) harr⟩
theorem scopeQ_other {P : Program} {c : Code} {Q : Exit → Act → World → Prop} {e : Ex} {a : Act} {w : World} (h0 : ¬ (e.k = 2 ∧ hasL e.id c = true)) (h : Q e.to a w) : scopeQ P c Q e.to a w := by
  unfold Ex.to at h ⊢
  split at h
  · rename_i h1; rw [if_pos h1]; exact h
  · rename_i h1
    rw [if_neg h1]
    split at h
    · rename_i h2; rw [if_pos h2]; exact h
    · rename_i h2
      rw [if_neg h2]
      split at h
      · rename_i h3
        rw [if_pos h3]
        refine Or.inr ⟨hasL_none ?_, h⟩
        cases hb : hasL e.id c with
        | false => rfl
        | true => exact absurd ⟨h3, hb⟩ h0
      · rename_i h3; rw [if_neg h3]; exact h
/-- What a scope's run, from its head or from a label, is to give. -/
def ScW (P : Program) (c : Code) (m : Option Nat) (Q : Exit → Act → World → Prop) (a : Act) (w : World) : Prop := match m with
  | none => (Code.scope c).wp P Q a w
  | some l => ∀ r, findLabel c l = some r → ScopeWp P c r Q a w
def FromL (c : Code) (m : Option Nat) (r : Code) : Prop := match m with
  | none => r = c
  | some l => findLabel c l = some r
/-- A scope's run. -/
theorem scope_ok {N : Nat} {c : Code} {g : Option Nat → Sta → R (Ex × Sta)} (hg : ∀ m s e s', g m s = .ok (e, s') → match m with
    | none => ExecOk P T S N c s e s'
    | some l => ∀ r, findLabel c l = some r → ExecOk P T S N r s e s') : ∀ (k : Nat) (m : Option Nat) (s : Sta) (e : Ex) (s' : Sta), (∀ l, m = some l → hasL l c = true) → scopeA c g k m s = .ok (e, s') →
    Tid s s' ∧ ∀ {ds : List Deferred} (Q : Exit → Act → World → Prop) (C : Cx) (a : Act), StaOk ds C N s a → GOk T S C → FreeA C s.n s'.n → (∀ C' a', StaOk ds C' N s' a' → Goes C C' → NewA C C' s.n s'.n → Q e.to a' C'.w) → ScW P c m Q a C.w
  | 0, _, _, _, _, _, h => by cases h
  | k + 1, m, s, e, s', hm, h => by
    simp only [scopeA] at h
    obtain ⟨⟨e1, s1⟩, h1, h⟩ := bindR_ok h
    have hb := hg m s e1 s1 h1
    have both : ∃ r, FromL c m r ∧ ExecOk P T S N r s e1 s1 := by
      cases m with
      | none => exact ⟨c, rfl, hb⟩
      | some l =>
        obtain ⟨r, hr⟩ := hasL_some (hm l rfl)
        exact ⟨r, hr, hb r hr⟩
    obtain ⟨r, hr, t1, t2⟩ := both
    have fin : ∀ (Q : Exit → Act → World → Prop) (a : Act) (w : World), r.wp P (scopeQ P c Q) a w → ScW P c m Q a w := by
      intro Q a w hw
      cases m with
      | none =>
        have hr : r = c := hr
        subst hr
        exact wp_scope_of hw
      | some l =>
        intro r' hr'
        have hr : findLabel c l = some r := hr
        rw [hr] at hr'
        cases hr'
        exact scopeWp_of hw
    split at h
    · rename_i h0
      simp only at h0 h
      obtain ⟨r2, hr2⟩ := hasL_some h0.2
      obtain ⟨t3, t4⟩ := scope_ok hg k (some e1.id) s1 e s' (fun l hl => by cases hl; exact h0.2) h
      refine ⟨t1.trans t3, fun Q C a hs hG hF hQ => fin Q a C.w (t2 _ C a hs hG (hF.left t3.le) fun C1 a1 k1 k2 k3 => ?_)⟩
      have : e1.to = .goto e1.id := by unfold Ex.to; rw [if_neg (by omega), if_neg (by omega), if_pos h0.1]
      rw [this]
      exact Or.inl ⟨r2, hr2, t4 Q C1 a1 k1 (hG.mono k2.le) (hF.right k3 t1.le) (fun C2 a2 m1 m2 m3 => hQ C2 a2 m1 (k2.trans m2) (k3.trans m3 t1.le t3.le)) r2 hr2⟩
    · rename_i h0
      simp only [Except.ok.injEq, Prod.mk.injEq] at h
      obtain ⟨rfl, rfl⟩ := h
      exact ⟨t1, fun Q C a hs hG hF hQ => fin Q a C.w (t2 _ C a hs hG hF fun C1 a1 k1 k2 k3 => scopeQ_other h0 (hQ C1 a1 k1 k2 k3))⟩

theorem loop_ok {N : Nat} {c : Code} {body : Sta → R (Ex × Sta)} (hb : ∀ s e s', body s = .ok (e, s') → ExecOk P T S N c s e s') : ∀ (k : Nat) (s : Sta) (e : Ex) (s' : Sta), loopA body k s = .ok (e, s') →
    Tid s s' ∧ ∀ {ds : List Deferred} (Q : Exit → Act → World → Prop) (C : Cx) (a : Act), StaOk ds C N s a → GOk T S C → FreeA C s.n s'.n → (∀ C' a', StaOk ds C' N s' a' → Goes C C' → NewA C C' s.n s'.n → Q e.to a' C'.w) → Code.rounds P c Q k a C.w
  | 0, s, e, s', h => by cases h
  | k + 1, s, e, s', h => by
    simp only [loopA] at h
    obtain ⟨⟨e1, s1⟩, h1, h⟩ := bindR_ok h
    obtain ⟨t1, t2⟩ := hb _ _ _ h1
    split at h
    · rename_i h0
      simp only at h0 h
      obtain ⟨t3, t4⟩ := loop_ok hb k s1 e s' h
      refine ⟨t1.trans t3, fun Q C a hs hG hF hQ => ?_⟩
      simp only [Code.rounds]
      refine t2 _ C a hs hG (hF.left t3.le) fun C1 a1 k1 k2 k3 => ?_
      have : e1.to = .normal := by unfold Ex.to; rw [if_pos h0]
      rw [this]
      exact t4 Q C1 a1 k1 (hG.mono k2.le) (hF.right k3 t1.le) fun C2 a2 m1 m2 m3 => hQ C2 a2 m1 (k2.trans m2) (k3.trans m3 t1.le t3.le)
    · rename_i h0
      simp only [Except.ok.injEq, Prod.mk.injEq] at h
      obtain ⟨rfl, rfl⟩ := h
      refine ⟨t1, fun Q C a hs hG hF hQ => ?_⟩
      simp only [Code.rounds]
      exact t2 _ C a hs hG hF fun C1 a1 k1 k2 k3 => exit_cases h0 (hQ C1 a1 k1 k2 k3)

include hT hz hNum hm hcall hbody in
theorem execP_ok {N lk loc : Nat} : ∀ (c : Code), codeOk c = true → ∀ (m : Option Nat) (s : Sta) (e : Ex) (s' : Sta), execP P T call N lk loc c m s = .ok (e, s') → match m with
    | none => ExecOk P T S N c s e s'
    | some l => ∀ r, findLabel c l = some r → ExecOk P T S N r s e s'
  | .skip, _, none, s, e, s', h => by
    simp only [execP, Except.ok.injEq, Prod.mk.injEq] at h
    obtain ⟨rfl, rfl⟩ := h
    exact ⟨Tid.refl s, fun Q C a hs hG hF hQ => wp_skip (hQ C a hs hs.refl_goes (newA_same rfl))⟩
  | .label l, _, none, s, e, s', h => by
    simp only [execP, Except.ok.injEq, Prod.mk.injEq] at h
    obtain ⟨rfl, rfl⟩ := h
    exact ⟨Tid.refl s, fun Q C a hs hG hF hQ => wp_label (hQ C a hs hs.refl_goes (newA_same rfl))⟩
  | .label l, _, some l', s, e, s', h => by
    simp only [execP, Except.ok.injEq, Prod.mk.injEq] at h
    obtain ⟨rfl, rfl⟩ := h
    intro r hr
    simp only [findLabel] at hr
    split at hr
    · cases hr
      exact ⟨Tid.refl s, fun Q C a hs hG hF hQ => wp_skip (hQ C a hs hs.refl_goes (newA_same rfl))⟩
    · cases hr
  | .exit id, _, none, s, e, s', h => by
    simp only [execP, Except.ok.injEq, Prod.mk.injEq] at h
    obtain ⟨rfl, rfl⟩ := h
    exact ⟨Tid.refl s, fun Q C a hs hG hF hQ => wp_exit (hQ C a hs hs.refl_goes (newA_same rfl))⟩
  | .goto id, _, none, s, e, s', h => by
    simp only [execP, Except.ok.injEq, Prod.mk.injEq] at h
    obtain ⟨rfl, rfl⟩ := h
    exact ⟨Tid.refl s, fun Q C a hs hG hF hQ => wp_goto (hQ C a hs hs.refl_goes (newA_same rfl))⟩
  | .ret, _, none, s, e, s', h => by
    simp only [execP, Except.ok.injEq, Prod.mk.injEq] at h
    obtain ⟨rfl, rfl⟩ := h
    exact ⟨Tid.refl s, fun Q C a hs hG hF hQ => wp_ret (hQ C a hs hs.refl_goes (newA_same rfl))⟩
  | .region id ops d, hc, none, s, e, s', h => by
    simp only [execP] at h
    obtain ⟨s1, h1, h⟩ := bindR_ok h
    simp only [Except.ok.injEq, Prod.mk.injEq] at h
    obtain ⟨rfl, rfl⟩ := h
    unfold regionA at h1
    cases d with
    | true =>
      simp only [if_true] at h1
      split at h1
      · rename_i cn hcn
        have h2 := orErr_ok h1
        exact ⟨coin_tid h2, fun Q C a hs hG hF hQ => coin_ok hT hm hcn h2 Q C a hs hF hQ⟩
      split at h1
      · rename_i cn hcn
        exact litA_ok hT hz hNum hcall hbody hm hcn h1
      obtain ⟨⟨E, s2, w⟩, h2, h1⟩ := bindR_ok h1
      split at h1
      case isFalse => cases h1
      rename_i hwatch
      simp only [Except.ok.injEq] at h1
      subst h1
      replace hwatch : w = true → watchB s.H E = true := fun hw => by
        rw [hw] at hwatch
        simpa using hwatch
      have hr : regOk ops = true := by simpa [codeOk] using hc
      obtain ⟨t1, t2⟩ := draw_ok hT hz hNum hcall hbody hm (id := id) h2 hr hwatch
      exact ⟨t1, fun Q C a hs hG hF hQ => t2 Q C a hs hG hF hQ⟩
    | false =>
      simp only [Bool.false_eq_true, if_false] at h1
      obtain ⟨t1, t2⟩ := ordA_ok hT hz hNum hcall hbody _ _ _ _ h1
      exact ⟨t1, fun Q C a hs hG hF hQ => wp_region_list (t2 Q C a hs hG hF hQ)⟩
  | .seq x y, hc, none, s, e, s', h => by
    simp only [codeOk, Bool.and_eq_true] at hc
    simp only [execP] at h
    obtain ⟨⟨e1, s1⟩, h1, h⟩ := bindR_ok h
    obtain ⟨t1, t2⟩ := execP_ok x hc.1 none s e1 s1 h1
    split at h
    · rename_i h0
      simp only at h0 h
      obtain ⟨t3, t4⟩ := execP_ok y hc.2 none s1 e s' h
      refine ⟨t1.trans t3, fun Q C a hs hG hF hQ => wp_seq (t2 _ C a hs hG (hF.left t3.le) fun C1 a1 k1 k2 k3 => ?_)⟩
      have : e1.to = .normal := by unfold Ex.to; rw [if_pos h0]
      rw [this]
      exact t4 Q C1 a1 k1 (hG.mono k2.le) (hF.right k3 t1.le) fun C2 a2 m1 m2 m3 => hQ C2 a2 m1 (k2.trans m2) (k3.trans m3 t1.le t3.le)
    · rename_i h0
      simp only [Except.ok.injEq, Prod.mk.injEq] at h
      obtain ⟨rfl, rfl⟩ := h
      exact ⟨t1, fun Q C a hs hG hF hQ => wp_seq (t2 _ C a hs hG hF fun C1 a1 k1 k2 k3 => exit_cases h0 (hQ C1 a1 k1 k2 k3))⟩
  | .seq x y, hc, some l, s, e, s', h => by
    intro r hr
    simp only [codeOk, Bool.and_eq_true] at hc
    simp only [execP] at h
    simp only [findLabel] at hr
    split at h
    · rename_i hl
      obtain ⟨r1, hr1⟩ := hasL_some hl
      rw [hr1] at hr
      simp only [Option.some.injEq] at hr
      subst hr
      obtain ⟨⟨e1, s1⟩, h1, h⟩ := bindR_ok h
      obtain ⟨t1, t2⟩ := execP_ok x hc.1 (some l) s e1 s1 h1 r1 hr1
      split at h
      · rename_i h0
        simp only at h0 h
        obtain ⟨t3, t4⟩ := execP_ok y hc.2 none s1 e s' h
        refine ⟨t1.trans t3, fun Q C a hs hG hF hQ => wp_seq (t2 _ C a hs hG (hF.left t3.le) fun C1 a1 k1 k2 k3 => ?_)⟩
        have : e1.to = .normal := by unfold Ex.to; rw [if_pos h0]
        rw [this]
        exact t4 Q C1 a1 k1 (hG.mono k2.le) (hF.right k3 t1.le) fun C2 a2 m1 m2 m3 => hQ C2 a2 m1 (k2.trans m2) (k3.trans m3 t1.le t3.le)
      · rename_i h0
        simp only [Except.ok.injEq, Prod.mk.injEq] at h
        obtain ⟨rfl, rfl⟩ := h
        exact ⟨t1, fun Q C a hs hG hF hQ => wp_seq (t2 _ C a hs hG hF fun C1 a1 k1 k2 k3 => exit_cases h0 (hQ C1 a1 k1 k2 k3))⟩
    · rename_i hl
      rw [hasL_none (by simpa using hl)] at hr
      exact execP_ok y hc.2 (some l) s e s' h r hr
  | .cond x a b, hc, none, s, e, s', h => by
    simp only [codeOk, Bool.and_eq_true] at hc
    simp only [execP] at h
    unfold condA at h
    split at h
    · rename_i t h1
      cases t with
      | true =>
        simp only [if_true] at h
        obtain ⟨t1, t2⟩ := execP_ok a hc.1 none s e s' h
        exact ⟨t1, fun Q C ac hs hG hF hQ => wp_cond_true (rv_bool (rv_op hG hs.fr x) h1) (t2 Q C ac hs hG hF hQ)⟩
      | false =>
        simp only [Bool.false_eq_true, if_false] at h
        obtain ⟨t1, t2⟩ := execP_ok b hc.2 none s e s' h
        exact ⟨t1, fun Q C ac hs hG hF hQ => wp_cond_false (rv_bool (rv_op hG hs.fr x) h1) (t2 Q C ac hs hG hF hQ)⟩
    · split at h
      case isFalse => cases h
      rename_i h17
      obtain ⟨⟨e1, s1⟩, h1, h⟩ := bindR_ok h
      obtain ⟨⟨e2, s2⟩, h2, h⟩ := bindR_ok h
      obtain ⟨t1, t2⟩ := execP_ok a hc.1 none s e1 s1 h1
      obtain ⟨t3, t4⟩ := execP_ok b hc.2 none s e2 s2 h2
      obtain ⟨j1, j2, j3, j4, j5⟩ := joinA_ok t1 t3 h
      simp only at j1 j2 j3 j4 j5
      subst j1; subst j3
      refine ⟨⟨t1.le, t1.bnd, t1.wr, t1.keep, t1.had⟩, fun Q C ac hs hG hF hQ => ?_⟩
      obtain ⟨v, hv⟩ := ((rv_op hG hs.fr x).hi (by omega)).ub h17
      cases v with
      | true => exact wp_cond_true hv (t2 Q C ac hs hG hF fun C1 a1 k1 k2 k3 => hQ C1 a1 ⟨k1.H, k1.ok, rf_meet1 k1.fr, k1.df, k1.bnd⟩ k2 k3)
      | false =>
        refine wp_cond_false hv (t4 Q C ac hs hG (by rw [j4]; exact hF) fun C1 a1 k1 k2 k3 => ?_)
        have hl := k1.ok.less (H := s1.H) fun b B hb => by rw [k1.H, j5 hs.bnd b]; exact hb
        rw [← j2]
        exact hQ { C1 with H := s1.H } a1 ⟨rfl, hl.ok, rf_meet2 (RF.mono hl.le k1.fr), k1.df, t1.bnd hs.bnd⟩ (k2.trans hl) (by rw [j4] at k3; exact k3)
  | .block id x, hc, none, s, e, s', h => by
    simp only [codeOk] at hc
    simp only [execP] at h
    obtain ⟨⟨e1, s1⟩, h1, h⟩ := bindR_ok h
    obtain ⟨t1, t2⟩ := execP_ok x hc none s e1 s1 h1
    split at h
    · rename_i h0
      simp only [Except.ok.injEq, Prod.mk.injEq] at h
      obtain ⟨rfl, rfl⟩ := h
      refine ⟨t1, fun Q C a hs hG hF hQ => wp_block (t2 _ C a hs hG hF fun C1 a1 k1 k2 k3 => ?_)⟩
      have : e1.to = .exit id := by unfold Ex.to; rw [if_neg (by rw [h0.1]; decide), if_pos h0.1, h0.2]
      rw [this]
      show (if id = id then _ else _)
      rw [if_pos rfl]
      exact hQ C1 a1 k1 k2 k3
    · rename_i h0
      simp only [Except.ok.injEq, Prod.mk.injEq] at h
      obtain ⟨rfl, rfl⟩ := h
      refine ⟨t1, fun Q C a hs hG hF hQ => wp_block (t2 _ C a hs hG hF fun C1 a1 k1 k2 k3 => ?_)⟩
      have hq := hQ C1 a1 k1 k2 k3
      unfold Ex.to at hq ⊢
      by_cases h2 : e1.k = 0
      · rw [if_pos h2] at hq ⊢; exact hq
      · rw [if_neg h2] at hq ⊢
        by_cases h3 : e1.k = 1
        · rw [if_pos h3] at hq ⊢
          show (if e1.id = id then _ else _)
          rw [if_neg fun h4 => h0 ⟨h3, h4⟩]
          exact hq
        · rw [if_neg h3] at hq ⊢
          by_cases h4 : e1.k = 2
          · rw [if_pos h4] at hq ⊢; exact hq
          · rw [if_neg h4] at hq ⊢; exact hq
  | .loop x, hc, none, s, e, s', h => by
    simp only [codeOk] at hc
    simp only [execP] at h
    obtain ⟨t1, t2⟩ := loop_ok (fun s e s' h => execP_ok x hc none s e s' h) lk s e s' h
    exact ⟨t1, fun Q C a hs hG hF hQ => wp_loop_rounds lk (t2 Q C a hs hG hF hQ)⟩
  | .scope x, hc, none, s, e, s', h => by
    simp only [codeOk] at hc
    simp only [execP] at h
    exact scope_ok (fun m s e s' h => execP_ok x hc m s e s' h) lk none s e s' (fun l hl => by cases hl) h
  | .rangeFunc _ _ _ _, _, none, s, e, s', h => by simp [execP] at h
  | .refuse _, _, none, s, e, s', h => by simp [execP] at h
  | .skip, _, some _, s, e, s', h => by simp [execP] at h
  | .region _ _ _, _, some _, s, e, s', h => by simp [execP] at h
  | .cond _ _ _, _, some _, s, e, s', h => by simp [execP] at h
  | .block _ _, _, some _, s, e, s', h => by simp [execP] at h
  | .loop _, _, some _, s, e, s', h => by simp [execP] at h
  | .exit _, _, some _, s, e, s', h => by simp [execP] at h
  | .goto _, _, some _, s, e, s', h => by simp [execP] at h
  | .scope _, _, some _, s, e, s', h => by simp [execP] at h
  | .ret, _, some _, s, e, s', h => by simp [execP] at h
  | .rangeFunc _ _ _ _, _, some _, s, e, s', h => by simp [execP] at h
  | .refuse _, _, some _, s, e, s', h => by simp [execP] at h
include hT hz hNum hm hcall hbody in
theorem execA_ok {N lk loc : Nat} (c : Code) (s : Sta) (e : Ex) (s' : Sta) (hc : codeOk c = true) (h : execA P T call N lk loc c s = .ok (e, s')) : ExecOk P T S N c s e s' := execP_ok hT hz hNum hm hcall hbody c hc none s e s' h
end
end Go.Proofs.YthklnpkjlepagaaGreatDoor.Ab
