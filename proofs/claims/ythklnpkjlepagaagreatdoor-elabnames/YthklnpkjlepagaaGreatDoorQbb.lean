/- What is known ahead of a run is reckoned once: regions, code, functions. -/
import Derived.Test.YthklnpkjlepagaaGreatDoorMQbfxQbh
namespace Go.Proofs.YthklnpkjlepagaaGreatDoor.Ab
open Go.RowKit
variable {S : Nat → Value}

def wtT (x : AV) : Option Bool := ifB (Nat.beq x.t 0) (match x.v with
  | .bool b => some b
  | _ => some false) none
def wtF (x : AV) : Option Bool := ifB (Nat.beq x.t 0) (match x.v with
  | .bool b => some (ifB b false true)
  | _ => some false) none
theorem wtT_eq (x : AV) : wtT x = wantV true x := by
  unfold wtT wantV
  rw [ifE]
  split
  · cases x.v with
    | bool b => cases b <;> rfl
    | _ => rfl
  · rfl
theorem wtF_eq (x : AV) : wtF x = wantV false x := by
  unfold wtF wantV
  rw [ifE]
  split
  · cases x.v with
    | bool b => cases b <;> rfl
    | _ => rfl
  · rfl
structure WtC where
  g : Fr → Option Bool
def wtC (ops : Array Oper) (o : Oper) : WtC := match o.guard with
  | none => ⟨fun _ => some true⟩
  | some (j, want) => match ops[j]? with
    | some oj => match oj.dst with
      | some d => if want then ⟨fun fr => wtT ((rdE d).g fr)⟩ else ⟨fun fr => wtF ((rdE d).g fr)⟩
      | none => ⟨fun _ => none⟩
    | none => ⟨fun _ => none⟩
theorem wtC_eq (ops : Array Oper) (o : Oper) (fr : Fr) : (wtC ops o).g fr = wantedA ops fr o := by
  unfold wtC wantedA
  cases o.guard with
  | none => rfl
  | some p =>
    obtain ⟨j, want⟩ := p
    simp only
    cases ops[j]? with
    | none => rfl
    | some oj =>
      simp only
      cases oj.dst with
      | none => rfl
      | some d =>
        cases want with
        | true =>
          simp only [if_true, rdE_eq, wtT_eq]
        | false =>
          simp only [Bool.false_eq_true, if_false, rdE_eq, wtF_eq]

/-- What was written, with more of it: of an operation that may have written. -/
structure WkC where
  f : Nat → Nat → (Nat → R Sta) → R Sta
def wkC (k : Nat) : WkC := if k ≤ 2 then ⟨fun _ b c => c b⟩ else ⟨fun a b c => natL (a ||| b) c⟩
theorem wkC_eq {k a b : Nat} (c : Nat → R Sta) (h : k ≤ 2 → a = 0) : (wkC k).f a b c = c (a ||| b) := by
  unfold wkC
  split
  · rename_i hk
    rw [h hk, Nat.zero_or]
  · exact natL_eq _ _

theorem opA_wr {P : Program} {T : Tabs} {call : CallA} {loc : Nat} {H : Hp} {n : Nat} {fr : Fr} {o : Oper} {out : Out} (h : opA P T call loc H n fr o = .ok out) (hk : kindOf o ≤ 2) : out.wr = 0 := by
  unfold opA at h
  rw [callee_kind hk] at h
  exact (sop_kind hk (orErr_ok h)).1

/-- Operations one behind the other. -/
structure StC where
  r : CallA → Fr → Hp → Nat → Nat → R Sta
def doO (P : Program) (T : Tabs) (N loc : Nat) (o : Oper) (nx : StC) : StC := ⟨fun call fr H n w => (runC P T loc o).r call fr H n fun x H' n' m => (wkC (kindOf o)).f m w fun w' => nx.r call ((wrF N o.dst).s fr x) H' n' w'⟩
def ordC (P : Program) (T : Tabs) (N loc : Nat) (ops : Array Oper) : List Oper → Nat → StC
  | [], _ => ⟨fun _ fr H n w => .ok ⟨fr, H, n, w⟩⟩
  | o :: os, i => match o.guard with
    | none => doO P T N (loc + i) o (ordC P T N loc ops os (i + 1))
    | some _ => ⟨fun call fr H n w => optD ((wtC ops o).g fr) (.error (loc + i)) fun b => ifB b ((doO P T N (loc + i) o (ordC P T N loc ops os (i + 1))).r call fr H n w) ((ordC P T N loc ops os (i + 1)).r call ((wrF N o.dst).s fr (AV.ex undef)) H n w)⟩
theorem doO_ok {P : Program} {T : Tabs} {call : CallA} {N loc : Nat} {o : Oper} {nx : StC} {fr : Fr} {H : Hp} {n w : Nat} {s' : Sta} (h : (doO P T N loc o nx).r call fr H n w = .ok s') : ∃ out, opA P T call loc H n fr o = .ok out ∧ nx.r call (putA N fr o.dst out.x) out.H out.n (out.wr ||| w) = .ok s' := by
  unfold doO at h
  obtain ⟨out, h1, h2⟩ := runC_ok h
  rw [wkC_eq _ fun hk => opA_wr h1 hk, wrF_eq] at h2
  exact ⟨out, h1, h2⟩
theorem ordC_ok {P : Program} {T : Tabs} {call : CallA} {N loc : Nat} {ops : Array Oper} : ∀ (os : List Oper) (i : Nat) (fr : Fr) (H : Hp) (n w : Nat) (s' : Sta), (ordC P T N loc ops os i).r call fr H n w = .ok s' → ordA P T call N loc ops os i ⟨fr, H, n, w⟩ = .ok s'
  | [], _, fr, H, n, w, s', h => h
  | o :: os, i, fr, H, n, w, s', h => by
    have key : ∀ {s' : Sta}, (doO P T N (loc + i) o (ordC P T N loc ops os (i + 1))).r call fr H n w = .ok s' → (bindR (opA P T call (loc + i) H n fr o) fun out => ordA P T call N loc ops os (i + 1) ⟨putA N fr o.dst out.x, out.H, out.n, out.wr ||| w⟩) = .ok s' := by
      intro s' h
      obtain ⟨out, h1, h2⟩ := doO_ok h
      rw [h1]
      exact ordC_ok os (i + 1) _ _ _ _ _ h2
    simp only [ordA]
    unfold ordC at h
    cases hg : o.guard with
    | none =>
      rw [hg] at h
      have : wantedA ops fr o = some true := by unfold wantedA; rw [hg]
      rw [this]
      exact key h
    | some p =>
      rw [hg] at h
      obtain ⟨b, h1, h2⟩ := optD_ok h
      rw [wtC_eq] at h1
      rw [h1]
      rw [ifB_eq, wrF_eq] at h2
      cases b with
      | true => exact key h2
      | false => exact ordC_ok os (i + 1) _ _ _ _ _ h2

/-- Operations in a drawn order: the records alone. -/
structure DrC where
  r : CallA → Fr → Hp → Nat → Nat → List Rec → R Sta
/-- What is kept. -/
def tsOf (T : Tabs) (o : Oper) (fr : Fr) : Option Nat := if isCall o then none else some (touchM T fr o)
structure KpC where
  f : Nat → Fr → Nat → Nat → List Rec → List Rec
def asgN (n n' m : Nat) : Nat := (m % 2 ^ n) ||| newM n n'
def kpC (T : Tabs) (p : Plan) (i : Nat) (o : Oper) : KpC := if p.keep then ⟨fun n fr n' m recs => ⟨i, asgN n n' m, tsOf T o fr⟩ :: recs⟩ else ⟨fun _ _ _ _ recs => recs⟩
def wm (m n : Nat) : Nat := Nat.mod m (Nat.pow 2 n)
theorem wm_eq (m n : Nat) : wm m n = m % 2 ^ n := rfl
def plainD (P : Program) (T : Tabs) (N loc i : Nat) (p : Plan) (o : Oper) (nx : DrC) : DrC := ⟨fun call fr H n w recs => (runC P T loc o).r call fr H n fun x H' n' m => (wkC (kindOf o)).f (wm m n) w fun w' => nx.r call ((wrF N o.dst).s fr x) H' n' w' ((kpC T p i o).f n fr n' m recs)⟩
def runD (P : Program) (T : Tabs) (N loc i : Nat) (p : Plan) (o : Oper) (nx : DrC) : DrC := ⟨fun call fr H n w recs => (runC P T loc o).r call fr H n fun x H' n' m => ifB (lateOk (wm m n) (badR p.bi recs)) ((wkC (kindOf o)).f (wm m n) w fun w' => nx.r call ((wrF N o.dst).s fr x) H' n' w' ((kpC T p i o).f n fr n' m recs)) (.error (loc + 400))⟩
def checkD (P : Program) (T : Tabs) (N loc i : Nat) (p : Plan) (o : Oper) (nx : DrC) : DrC := if isCall o then ⟨fun call fr H n w recs => ifB (Nat.beq (orAsg (badR p.bi recs)) 0) ((runD P T N loc i p o nx).r call fr H n w recs)
      (bindX (opA P T call loc (eraseH H (bitsL (orAsg (badR p.bi recs)))) n fr o) fun out => ifB (lateOk (out.wr % 2 ^ n) (badR p.bi recs)) (nx.r call (putA N fr o.dst out.x) (asgH H (asgL n out) out.H) out.n ((out.wr % 2 ^ n) ||| w) ((kpC T p i o).f n fr out.n out.wr recs)) (.error (loc + 400)))⟩
    else ⟨fun call fr H n w recs => ifB (Nat.beq (touchM T fr o &&& orAsg (badR p.bi recs)) 0) ((runD P T N loc i p o nx).r call fr H n w recs) (.error 7)⟩
def doD (P : Program) (T : Tabs) (N loc i : Nat) (p : Plan) (o : Oper) (nx : DrC) : DrC := if p.chk then checkD P T N loc i p o nx else plainD P T N loc i p o nx
def stepD (P : Program) (T : Tabs) (N loc : Nat) (ops : Array Oper) (i : Nat) (p : Plan) (o : Oper) (nx : DrC) : DrC := match o.guard with
  | none => doD P T N loc i p o nx
  | some _ => ⟨fun call fr H n w recs => optD ((wtC ops o).g fr) (.error loc) fun b => ifB b ((doD P T N loc i p o nx).r call fr H n w recs) (nx.r call ((wrF N o.dst).s fr (AV.ex undef)) H n w recs)⟩
def drC (P : Program) (T : Tabs) (N loc : Nat) (ops : Array Oper) : List Oper → List Plan → Nat → DrC
  | [], _, _ => ⟨fun _ fr H n w _ => .ok ⟨fr, H, n, w⟩⟩
  | o :: os, ps, i => stepD P T N (loc + i) ops i (ps.headD ⟨0, true, true⟩) o (drC P T N loc ops os ps.tail (i + 1))

theorem kpC_eq {T : Tabs} {p : Plan} {i : Nat} {o : Oper} {n : Nat} {fr : Fr} {out : Out} {recs : List Rec} : (kpC T p i o).f n fr out.n out.wr recs = if p.keep then ⟨i, asgM n out, tsOf T o fr⟩ :: recs else recs := by
  unfold kpC
  split <;> rfl
section
variable {P : Program} {T : Tabs} {call : CallA} {N loc i : Nat} {ops : Array Oper} {p : Plan} {o : Oper} {nx : DrC} {fr : Fr} {H : Hp} {n w : Nat} {s' : Sta} {recs : List Rec}

/-- What comes behind goes on from there. -/
def Goon (nx : DrC) (call : CallA) (s' : Sta) (r : StepR) : Prop := r.w = false ∧ nx.r call r.s.fr r.s.H r.s.n r.s.wr r.r = .ok s'
theorem fin_ok {H' : Hp} {out : Out} (hc : (!p.chk || lateOk (out.wr % 2 ^ n) (badR p.bi recs)) = true) (h : nx.r call (putA N fr o.dst out.x) H' out.n ((out.wr % 2 ^ n) ||| w) ((kpC T p i o).f n fr out.n out.wr recs) = .ok s') : ∃ r, finE N loc i p o ⟨fr, H, n, w⟩ recs (tsOf T o fr) H' out = .ok r ∧ Goon nx call s' r := by
  unfold finE
  rw [if_pos hc]
  rw [kpC_eq] at h
  exact ⟨_, rfl, rfl, h⟩
theorem wr_mod {out : Out} (h : opA P T call loc H n fr o = .ok out) (hk : kindOf o ≤ 2) : out.wr % 2 ^ n = 0 := by rw [opA_wr h hk, Nat.zero_mod]
theorem bindR_some {α β : Type} {l : Nat} {a : α} {f : α → R β} : bindR (orErr l (some a)) f = f a := rfl

theorem doD_ok (h : (doD P T N loc i p o nx).r call fr H n w recs = .ok s') (hw : wantedA ops fr o = some true) : ∃ r, stepE P T call N loc ops i p o ⟨fr, H, n, w⟩ recs = .ok r ∧ Goon nx call s' r := by
  have hrun : (runD P T N loc i p o nx).r call fr H n w recs = .ok s' → ∃ r, (bindR (opA P T call loc H n fr o) fun out => finE N loc i p o ⟨fr, H, n, w⟩ recs (tsOf T o fr) out.H out) = .ok r ∧ Goon nx call s' r := by
    intro h
    unfold runD at h
    obtain ⟨out, h1, h2⟩ := runC_ok h
    simp only [ifB_eq, wm_eq] at h2
    split at h2
    · rename_i hl
      rw [wkC_eq _ fun hk => wr_mod h1 hk, wrF_eq] at h2
      rw [h1]
      exact fin_ok (by rw [hl, Bool.or_true]) h2
    · cases h2
  have hplain : p.chk = false → (plainD P T N loc i p o nx).r call fr H n w recs = .ok s' → ∃ r, (bindR (opA P T call loc H n fr o) fun out => finE N loc i p o ⟨fr, H, n, w⟩ recs (tsOf T o fr) out.H out) = .ok r ∧ Goon nx call s' r := by
    intro hc h
    unfold plainD at h
    obtain ⟨out, h1, h2⟩ := runC_ok h
    simp only [wm_eq] at h2
    rw [wkC_eq _ fun hk => wr_mod h1 hk, wrF_eq] at h2
    rw [h1]
    exact fin_ok (by rw [hc]; rfl) h2
  unfold stepE
  simp only []
  rw [hw, bindR_some, if_pos rfl]
  unfold doD at h
  cases hcl : isCall o with
  | true =>
    obtain ⟨x, hx⟩ := isCall_yes (T := T) (fr := fr) hcl
    have hts : tsOf T o fr = none := by unfold tsOf; rw [hcl]; rfl
    rw [hts] at hrun hplain
    rw [hx]
    simp only
    cases hc : p.chk with
    | false =>
      rw [hc] at h
      simp only [Bool.false_eq_true, if_false] at h ⊢
      rw [if_pos (by rfl)]
      exact hplain hc h
    | true =>
      rw [hc] at h
      simp only [if_true, checkD, hcl, ifB_eq] at h ⊢
      split at h
      · rename_i hb
        rw [if_pos hb]
        exact hrun h
      · rename_i hb
        rw [if_neg hb]
        simp only [bindX_eq] at h
        obtain ⟨out, h1, h2⟩ := bindR_ok h
        rw [h1]
        split at h2
        · rename_i hl
          have := fin_ok (loc := loc) (H := H) (by rw [hl, Bool.or_true]) h2
          rw [hts] at this
          exact this
        · cases h2
  | false =>
    rw [isCall_no hcl]
    have hts : tsOf T o fr = some (touchM T fr o) := by unfold tsOf; rw [hcl]; rfl
    rw [hts] at hrun hplain
    simp only
    cases hc : p.chk with
    | false =>
      rw [hc] at h
      simp only [Bool.false_eq_true, if_false, Bool.false_and] at h ⊢
      exact hplain hc h
    | true =>
      rw [hc] at h
      simp only [if_true, checkD, hcl, ifB_eq, Bool.false_eq_true, if_false] at h
      split at h
      · rename_i hb
        rw [if_neg (by rw [hb]; simp)]
        exact hrun h
      · cases h

theorem stepD_ok (h : (stepD P T N loc ops i p o nx).r call fr H n w recs = .ok s') : ∃ r, stepE P T call N loc ops i p o ⟨fr, H, n, w⟩ recs = .ok r ∧ Goon nx call s' r := by
  unfold stepD at h
  cases hg : o.guard with
  | none =>
    rw [hg] at h
    exact doD_ok h (by unfold wantedA; rw [hg])
  | some q =>
    rw [hg] at h
    obtain ⟨b, h1, h2⟩ := optD_ok h
    rw [wtC_eq] at h1
    rw [ifB_eq, wrF_eq] at h2
    cases b with
    | true => exact doD_ok h2 h1
    | false =>
      unfold stepE
      simp only []
      rw [h1]
      exact ⟨_, rfl, rfl, h2⟩
end
theorem drC_ok {P : Program} {T : Tabs} {call : CallA} {N loc : Nat} {ops : Array Oper} : ∀ (os : List Oper) (ps : List Plan) (i : Nat) (fr : Fr) (H : Hp) (n w : Nat) (s' : Sta) (recs : List Rec), (drC P T N loc ops os ps i).r call fr H n w recs = .ok s' → ∃ E, drawGo P T call N loc ops os ps i ⟨fr, H, n, w⟩ recs = .ok (E, s', false)
  | [], ps, i, fr, H, n, w, s', recs, h => by
    have h : Except.ok (⟨fr, H, n, w⟩ : Sta) = Except.ok (ε := Nat) s' := h
    cases h
    exact ⟨[], rfl⟩
  | o :: os, ps, i, fr, H, n, w, s', recs, h => by
    obtain ⟨r, h1, h2, h3⟩ := stepD_ok (show (stepD P T N (loc + i) ops i (ps.headD ⟨0, true, true⟩) o (drC P T N loc ops os ps.tail (i + 1))).r call fr H n w recs = .ok s' from h)
    obtain ⟨E, h4⟩ := drC_ok os ps.tail (i + 1) r.s.fr r.s.H r.s.n r.s.wr s' r.r h3
    refine ⟨r.e :: E, ?_⟩
    simp only [drawGo]
    rw [h1]
    show bindR (drawGo P T call N loc ops os ps.tail (i + 1) r.s r.r) _ = _
    have h4 : drawGo P T call N loc ops os ps.tail (i + 1) r.s r.r = .ok (E, s', false) := h4
    rw [h4]
    simp only [bindR, h2, Bool.or_false]

/-- A region. -/
def coinC (T : Tabs) (N loc : Nat) (c : Nat × Nat × Nat) : StC := ⟨fun _ fr H n w => Option.casesOn (coinRun T N c ⟨fr, H, n, w⟩) (.error (loc + 650)) fun s => Sta.casesOn s fun fr H n w => natL n fun n => .ok ⟨fr, H, n, w⟩⟩
theorem coinC_eq (T : Tabs) (N loc : Nat) (c : Nat × Nat × Nat) (call : CallA) (fr : Fr) (H : Hp) (n w : Nat) : (coinC T N loc c).r call fr H n w = orErr (loc + 650) (coinRun T N c ⟨fr, H, n, w⟩) := by
  unfold coinC
  simp only
  cases coinRun T N c ⟨fr, H, n, w⟩ with
  | none => rfl
  | some s => obtain ⟨fr, H, n, w⟩ := s; simp only [natL_eq]; rfl
def litE (N d : Nat) (cps : List (Nat × Nat)) (ins : List (Nat × ByteArray × AV)) (s1 : Sta) : R Sta := natL s1.n fun n => natL (Nat.succ n) fun n' => .ok ⟨putAll N (AV.mp n) (d :: cps.map (·.2)) s1.fr, hpS s1.H n (some ⟨0, [AV.ents (litEnts ins)]⟩), n', s1.wr⟩
theorem litE_eq (N d : Nat) (cps : List (Nat × Nat)) (ins : List (Nat × ByteArray × AV)) (s1 : Sta) : litE N d cps ins s1 = .ok (litEnd N d cps ins s1) := by
  unfold litE litEnd
  simp only [natL_eq, hpS_eq]
def regC (P : Program) (T : Tabs) (N loc : Nat) (ops : Array Oper) (d : Bool) : StC := if d then match coinOf ops with
  | some c => coinC T N loc c
  | none => match litOf T N ops with
    | some c => ⟨fun call fr H n w => Except.casesOn ((drC P T N loc (ops.map litOp) (ops.map litOp).toList (planOf (ops.map litOp) (bits (ops.map litOp))) 0).r call fr H n w []) (fun e => ifB (Nat.beq e 7) (litA P T call N loc c ops ⟨fr, H, n, w⟩) (.error e)) fun s1 => litE N c.2.1 (cpGo c.1 c.2.1 [] 0 ops.toList) (insGo (fun x => (evC T x).g s1.fr) 0 ops.toList) s1⟩
    | none => ⟨fun call fr H n w => Except.casesOn ((drC P T N loc ops ops.toList (planOf ops (bits ops)) 0).r call fr H n w []) (fun e => ifB (Nat.beq e 7) (regionA P T call N loc ops true ⟨fr, H, n, w⟩) (.error e)) fun s' => .ok s'⟩ else ordC P T N loc ops ops.toList 0
theorem regC_ok {P : Program} {T : Tabs} {call : CallA} {N loc : Nat} {ops : Array Oper} {d : Bool} {fr : Fr} {H : Hp} {n w : Nat} {s' : Sta} (h : (regC P T N loc ops d).r call fr H n w = .ok s') : regionA P T call N loc ops d ⟨fr, H, n, w⟩ = .ok s' := by
  cases d with
  | false => exact ordC_ok _ _ _ _ _ _ _ h
  | true =>
    unfold regC at h
    simp only [if_true] at h
    cases hcn : coinOf ops with
    | some c =>
      rw [hcn] at h
      simp only [coinC_eq] at h
      unfold regionA
      rw [if_pos rfl, hcn]
      exact h
    | none =>
    rw [hcn] at h
    simp only at h
    cases hln : litOf T N ops with
    | some c =>
      rw [hln] at h
      simp only at h
      unfold regionA
      rw [if_pos rfl, hcn]
      simp only
      rw [hln]
      simp only
      cases hr : (drC P T N loc (ops.map litOp) (ops.map litOp).toList (planOf (ops.map litOp) (bits (ops.map litOp))) 0).r call fr H n w [] with
      | ok s1 =>
        rw [hr] at h
        have h : litE N c.2.1 (cpGo c.1 c.2.1 [] 0 ops.toList) (insGo (fun x => (evC T x).g s1.fr) 0 ops.toList) s1 = .ok s' := h
        rw [litE_eq] at h
        obtain ⟨E, h1⟩ := drC_ok _ _ _ _ _ _ _ _ _ hr
        unfold litA
        rw [h1]
        have he : (fun x => (evC T x).g s1.fr) = evO T s1.fr := funext fun x => evC_eq T s1.fr x
        rw [he] at h
        exact h
      | error e =>
        rw [hr] at h
        simp only [ifB_eq] at h
        split at h
        · exact h
        · cases h
    | none =>
    rw [hln] at h
    simp only at h
    cases hr : (drC P T N loc ops ops.toList (planOf ops (bits ops)) 0).r call fr H n w [] with
    | ok s1 =>
      rw [hr] at h
      have h : Except.ok s1 = Except.ok (ε := Nat) s' := h
      cases h
      obtain ⟨E, h1⟩ := drC_ok _ _ _ _ _ _ _ _ _ hr
      unfold regionA
      rw [if_pos rfl, hcn]
      simp only
      rw [hln]
      simp only
      rw [h1]
      rfl
    | error e =>
      rw [hr] at h
      simp only [ifB_eq] at h
      split at h
      · exact h
      · cases h

/-- Code. -/
structure CdC where
  r : CallA → Fr → Hp → Nat → Nat → R (Ex × Sta)
  f : Nat → CallA → Fr → Hp → Nat → Nat → R (Ex × Sta)
def ifZ {α : Type} (k : Nat) (x y : α) : α := Nat.casesOn k x fun _ => y
theorem ifZ_eq {α : Type} (k : Nat) (x y : α) : ifZ k x y = if k = 0 then x else y := by cases k <;> rfl
/-- Behind code: on, if it has not left. -/
def andThen (r : Ex × Sta) (k : Fr → Hp → Nat → Nat → R (Ex × Sta)) : R (Ex × Sta) := Prod.casesOn r fun e s => Nat.casesOn e.k (Sta.casesOn s k) fun _ => .ok (e, s)
theorem andThen_eq (r : Ex × Sta) (k : Fr → Hp → Nat → Nat → R (Ex × Sta)) : andThen r k = if r.1.k = 0 then k r.2.fr r.2.H r.2.n r.2.wr else .ok r := by
  obtain ⟨e, s⟩ := r
  obtain ⟨k', id⟩ := e
  cases k' <;> rfl
def loopC (b : CdC) (call : CallA) : Nat → Fr → Hp → Nat → Nat → R (Ex × Sta)
  | 0, _, _, _, _ => .error 1
  | k + 1, fr, H, n, w => bindX (b.r call fr H n w) fun r => andThen r (loopC b call k)
/-- A scope's body, again from a label of its own. -/
def scopeC (a : Code) (b : CdC) (call : CallA) : Nat → Ex → Fr → Hp → Nat → Nat → R (Ex × Sta)
  | 0, e, fr, H, n, w => ifB (ifB (Nat.beq e.k 2) (hasL e.id a) false) (.error 1) (.ok (e, ⟨fr, H, n, w⟩))
  | k + 1, e, fr, H, n, w => ifB (ifB (Nat.beq e.k 2) (hasL e.id a) false) (natL e.id fun l => bindX (b.f l call fr H n w) fun r => Prod.casesOn r fun e s => Sta.casesOn s (scopeC a b call k e)) (.ok (e, ⟨fr, H, n, w⟩))
def noF (loc : Nat) : Nat → CallA → Fr → Hp → Nat → Nat → R (Ex × Sta) := fun _ _ _ _ _ _ => .error (loc + 888)
def joinC (N loc n0 : Nat) (p q : Ex × Sta) : R (Ex × Sta) := bindX (joinA N loc n0 p q) fun r => .ok r
theorem joinC_eq (N loc n0 : Nat) (p q : Ex × Sta) : joinC N loc n0 p q = joinA N loc n0 p q := by
  unfold joinC
  rw [bindX_eq]
  cases joinA N loc n0 p q <;> rfl
def codC (P : Program) (T : Tabs) (N lk loc : Nat) : Code → CdC
  | .skip => ⟨fun _ fr H n w => .ok (⟨0, 0⟩, ⟨fr, H, n, w⟩), noF loc⟩
  | .label _ => ⟨fun _ fr H n w => .ok (⟨0, 0⟩, ⟨fr, H, n, w⟩), fun _ _ fr H n w => .ok (⟨0, 0⟩, ⟨fr, H, n, w⟩)⟩
  | .region id ops d => ⟨fun call fr H n w => bindX ((regC P T N (loc + id * 1000) ops d).r call fr H n w) fun s' => .ok (⟨0, 0⟩, s'), noF loc⟩
  | .seq a b => ⟨fun call fr H n w => bindX ((codC P T N lk loc a).r call fr H n w) fun r => andThen r ((codC P T N lk loc b).r call), fun l call fr H n w => ifB (hasL l a) (bindX ((codC P T N lk loc a).f l call fr H n w) fun r => andThen r ((codC P T N lk loc b).r call)) ((codC P T N lk loc b).f l call fr H n w)⟩
  | .cond c a b => ⟨fun call fr H n w => optD (boolF ((evC T c).g fr)) (ifB (Nat.beq ((evC T c).g fr).t 17) (bindX ((codC P T N lk loc a).r call fr H n w) fun p => bindX ((codC P T N lk loc b).r call fr H n w) fun q => joinC N loc n p q) (.error (loc + 777))) fun t => ifB t ((codC P T N lk loc a).r call fr H n w) ((codC P T N lk loc b).r call fr H n w), noF loc⟩
  | .block id a => ⟨fun call fr H n w => bindX ((codC P T N lk loc a).r call fr H n w) fun r => ifB (ifB (Nat.beq r.1.k 1) (Nat.beq r.1.id id) false) (.ok (⟨0, 0⟩, r.2)) (.ok r), noF loc⟩
  | .loop a => ⟨fun call fr H n w => loopC (codC P T N lk loc a) call lk fr H n w, noF loc⟩
  | .exit id => ⟨fun _ fr H n w => .ok (⟨1, id⟩, ⟨fr, H, n, w⟩), noF loc⟩
  | .goto l => ⟨fun _ fr H n w => .ok (⟨2, l⟩, ⟨fr, H, n, w⟩), noF loc⟩
  | .scope a => ⟨fun call fr H n w => Nat.casesOn lk (.error 1) fun k => bindX ((codC P T N lk loc a).r call fr H n w) fun r => Prod.casesOn r fun e s => Sta.casesOn s (scopeC a (codC P T N lk loc a) call k e), noF loc⟩
  | .ret => ⟨fun _ fr H n w => .ok (⟨3, 0⟩, ⟨fr, H, n, w⟩), noF loc⟩
  | _ => ⟨fun _ _ _ _ _ => .error (loc + 888), noF loc⟩
theorem scopeC_ok {a : Code} {b : CdC} {call : CallA} {g : Option Nat → Sta → R (Ex × Sta)} (h : ∀ l fr H n w q, hasL l a = true → b.f l call fr H n w = .ok q → g (some l) ⟨fr, H, n, w⟩ = .ok q) : ∀ (k : Nat) (m : Option Nat) (s0 : Sta) (e : Ex) (fr : Fr) (H : Hp) (n w : Nat) (q : Ex × Sta), g m s0 = .ok (e, ⟨fr, H, n, w⟩) → scopeC a b call k e fr H n w = .ok q → scopeA a g (k + 1) m s0 = .ok q
  | 0, m, s0, e, fr, H, n, w, q, h0, hq => by
    simp only [scopeC, ifB_false] at hq
    simp only [scopeA]
    rw [h0]
    show (if e.k = 2 ∧ hasL e.id a = true then _ else _) = _
    split at hq
    · cases hq
    · rename_i h1
      rw [if_neg fun h9 => h1 ⟨by rw [h9.1]; rfl, h9.2⟩]
      exact hq
  | k + 1, m, s0, e, fr, H, n, w, q, h0, hq => by
    simp only [scopeC, ifB_false, natL_eq, bindX_eq] at hq
    rw [scopeA]
    rw [h0]
    show (if e.k = 2 ∧ hasL e.id a = true then _ else _) = _
    split at hq
    · rename_i h1
      rw [if_pos ⟨Nat.eq_of_beq_eq_true h1.1, h1.2⟩]
      obtain ⟨⟨e2, ⟨fr2, H2, n2, w2⟩⟩, h2, h3⟩ := bindR_ok hq
      exact scopeC_ok h k (some e.id) ⟨fr, H, n, w⟩ e2 fr2 H2 n2 w2 q (h e.id fr H n w _ h1.2 h2) h3
    · rename_i h1
      rw [if_neg fun h9 => h1 ⟨by rw [h9.1]; rfl, h9.2⟩]
      exact hq
theorem loopC_ok {b : CdC} {call : CallA} {g : Sta → R (Ex × Sta)} (h : ∀ fr H n w q, b.r call fr H n w = .ok q → g ⟨fr, H, n, w⟩ = .ok q) : ∀ (k : Nat) (fr : Fr) (H : Hp) (n w : Nat) (q : Ex × Sta), loopC b call k fr H n w = .ok q → loopA g k ⟨fr, H, n, w⟩ = .ok q
  | 0, fr, H, n, w, q, hq => by cases hq
  | k + 1, fr, H, n, w, q, hq => by
    simp only [loopC, bindX_eq, andThen_eq] at hq
    simp only [loopA]
    obtain ⟨r, h1, h2⟩ := bindR_ok hq
    rw [h _ _ _ _ _ h1]
    show (if r.1.k = 0 then _ else _) = _
    split at h2
    · rename_i h0
      rw [if_pos h0]
      exact loopC_ok h k _ _ _ _ q h2
    · rename_i h0
      rw [if_neg h0]
      exact h2
theorem codC_both {P : Program} {T : Tabs} {call : CallA} {N lk loc : Nat} : ∀ (c : Code), (∀ (fr : Fr) (H : Hp) (n w : Nat) (q : Ex × Sta), (codC P T N lk loc c).r call fr H n w = .ok q → execP P T call N lk loc c none ⟨fr, H, n, w⟩ = .ok q) ∧ (∀ (l : Nat) (fr : Fr) (H : Hp) (n w : Nat) (q : Ex × Sta), hasL l c = true → (codC P T N lk loc c).f l call fr H n w = .ok q → execP P T call N lk loc c (some l) ⟨fr, H, n, w⟩ = .ok q)
  | .skip => ⟨fun _ _ _ _ q h => h, fun l fr H n w q hl h => by cases hl⟩
  | .label _ => ⟨fun _ _ _ _ q h => h, fun _ _ _ _ _ q _ h => h⟩
  | .exit _ => ⟨fun _ _ _ _ q h => h, fun l fr H n w q hl h => by cases hl⟩
  | .goto _ => ⟨fun _ _ _ _ q h => h, fun l fr H n w q hl h => by cases hl⟩
  | .ret => ⟨fun _ _ _ _ q h => h, fun l fr H n w q hl h => by cases hl⟩
  | .rangeFunc _ _ _ _ => ⟨fun _ _ _ _ q h => h, fun l fr H n w q hl h => by cases hl⟩
  | .refuse _ => ⟨fun _ _ _ _ q h => h, fun l fr H n w q hl h => by cases hl⟩
  | .region id ops d => ⟨fun fr H n w q h => by
    simp only [codC, bindX_eq] at h
    obtain ⟨s1, h1, h2⟩ := bindR_ok h
    simp only [execP]
    rw [regC_ok h1]
    exact h2, fun l fr H n w q hl h => by cases hl⟩
  | .seq a b => by
    have fin : ∀ (r : Ex × Sta) (q : Ex × Sta), (if r.1.k = 0 then (codC P T N lk loc b).r call r.2.fr r.2.H r.2.n r.2.wr else .ok r) = .ok q → (if r.1.k = 0 then execP P T call N lk loc b none r.2 else .ok r) = .ok q := by
      intro r q h2
      split at h2
      · rename_i h0
        rw [if_pos h0]
        exact (codC_both b).1 _ _ _ _ _ h2
      · rename_i h0
        rw [if_neg h0]
        exact h2
    refine ⟨fun fr H n w q h => ?_, fun l fr H n w q hl h => ?_⟩
    · simp only [codC, bindX_eq, andThen_eq] at h
      obtain ⟨r, h1, h2⟩ := bindR_ok h
      simp only [execP]
      rw [(codC_both a).1 _ _ _ _ _ h1]
      exact fin r q h2
    · simp only [codC, bindX_eq, andThen_eq, ifB_eq] at h
      simp only [execP]
      split at h
      · rename_i ha
        rw [if_pos ha]
        obtain ⟨r, h1, h2⟩ := bindR_ok h
        rw [(codC_both a).2 _ _ _ _ _ _ ha h1]
        exact fin r q h2
      · rename_i ha
        rw [if_neg ha]
        simp only [hasL, Bool.or_eq_true] at hl
        rcases hl with hl | hl
        · exact absurd hl ha
        · exact (codC_both b).2 _ _ _ _ _ _ hl h
  | .cond c a b => ⟨fun fr H n w q h => by
    simp only [codC, ifB_eq, evC_eq, boolF_eq, bindX_eq, joinC_eq] at h
    simp only [execP, condA]
    cases hb : (evO T fr c).bool with
    | none =>
      rw [hb] at h
      have h : (if Nat.beq (evO T fr c).t 17 = true then bindR ((codC P T N lk loc a).r call fr H n w) fun p => bindR ((codC P T N lk loc b).r call fr H n w) fun q => joinA N loc n p q else .error (loc + 777)) = .ok q := h
      split at h
      · rename_i h17
        simp only
        rw [if_pos (Nat.eq_of_beq_eq_true h17)]
        obtain ⟨r1, h1, h⟩ := bindR_ok h
        obtain ⟨r2, h2, h⟩ := bindR_ok h
        rw [(codC_both a).1 _ _ _ _ _ h1]
        show bindR _ _ = _
        rw [(codC_both b).1 _ _ _ _ _ h2]
        exact h
      · cases h
    | some t =>
      rw [hb] at h
      simp only
      have h : (if t = true then (codC P T N lk loc a).r call fr H n w else (codC P T N lk loc b).r call fr H n w) = .ok q := h
      split at h
      · rename_i h0
        rw [if_pos h0]
        exact (codC_both a).1 _ _ _ _ _ h
      · rename_i h0
        rw [if_neg h0]
        exact (codC_both b).1 _ _ _ _ _ h, fun l fr H n w q hl h => by cases hl⟩
  | .block id a => ⟨fun fr H n w q h => by
    simp only [codC, bindX_eq, ifB_false] at h
    obtain ⟨r, h1, h2⟩ := bindR_ok h
    simp only [execP]
    rw [(codC_both a).1 _ _ _ _ _ h1]
    show (if r.1.k = 1 ∧ r.1.id = id then _ else _) = _
    split at h2
    · rename_i h0
      rw [if_pos ⟨Nat.eq_of_beq_eq_true h0.1, Nat.eq_of_beq_eq_true h0.2⟩]
      exact h2
    · rename_i h0
      rw [if_neg (fun h9 => h0 ⟨by rw [h9.1]; rfl, by rw [h9.2]; exact Nat.beq_refl id⟩)]
      exact h2, fun l fr H n w q hl h => by cases hl⟩
  | .loop a => ⟨fun fr H n w q h => loopC_ok (fun fr H n w q h => (codC_both a).1 fr H n w q h) lk fr H n w q h, fun l fr H n w q hl h => by cases hl⟩
  | .scope a => ⟨fun fr H n w q h => by
    have ha := codC_both (P := P) (T := T) (call := call) (N := N) (lk := lk) (loc := loc) a
    simp only [execP]
    cases lk with
    | zero => cases h
    | succ k =>
      simp only [codC, bindX_eq] at h
      obtain ⟨⟨e, ⟨fr2, H2, n2, w2⟩⟩, h1, h2⟩ := bindR_ok h
      exact scopeC_ok (fun l fr H n w q hl h => ha.2 l fr H n w q hl h) k none ⟨fr, H, n, w⟩ e fr2 H2 n2 w2 q (ha.1 _ _ _ _ _ h1) h2, fun l fr H n w q hl h => by cases hl⟩
theorem codC_ok {P : Program} {T : Tabs} {call : CallA} {N lk loc : Nat} (c : Code) (fr : Fr) (H : Hp) (n w : Nat) (q : Ex × Sta) (h : (codC P T N lk loc c).r call fr H n w = .ok q) : execA P T call N lk loc c ⟨fr, H, n, w⟩ = .ok q := (codC_both c).1 fr H n w q h

/-- What a function hands back. -/
structure ReC where
  g : Hp → Fr → Option (List AV)
def reC (T : Tabs) : List ResultVar → ReC
  | [] => ⟨fun _ _ => some []⟩
  | .tmp t :: rs => ⟨fun H fr => opt ((reC T rs).g H fr) fun xs => some ((rdE t).g fr :: xs)⟩
  | .cell a t :: rs => ⟨fun H fr => opt (xLoadF T H t ((rdE a).g fr)) fun x => opt ((reC T rs).g H fr) fun xs => some (x :: xs)⟩
theorem reC_eq (T : Tabs) (H : Hp) (fr : Fr) : ∀ (rs : List ResultVar), (reC T rs).g H fr = resA T H fr rs
  | [] => rfl
  | .tmp t :: rs => by
    simp only [reC, resA, rdE_eq, reC_eq T H fr rs, opt_eq]
    cases resA T H fr rs <;> rfl
  | .cell a t :: rs => by
    simp only [reC, resA, rdE_eq, reC_eq T H fr rs, opt_eq, xLoadF_eq]
    cases resA T H fr rs <;> rfl
/-- A function. -/
structure FnC where
  r : (Nat → Option (Nat × Nat)) → CallA → List AV → Hp → Nat → R Out
/-- The parts of a function's code in which a range over a function stands. -/
structure LnC where
  r : (Nat → Option (Nat × Nat)) → CallA → Fr → Hp → Nat → Nat → Bool → R (Ex × Sta)
def lstC (P : Program) (T : Tabs) (N lk loc : Nat) : List Code → LnC
  | [] => ⟨fun _ _ fr H n w _ => .ok (⟨0, 0⟩, ⟨fr, H, n, w⟩)⟩
  | c :: cs => match rfOf c with
    | some q => ⟨fun its call fr H n w u => ifB u (.error (loc + 705)) (bindX (rangeA P T call its N loc q ⟨fr, H, n, w⟩) fun r => andThen r fun fr H n w => (lstC P T N lk loc cs).r its call fr H n w true)⟩
    | none => ⟨fun its call fr H n w u => bindX ((codC P T N lk loc c).r call fr H n w) fun r => andThen r fun fr H n w => (lstC P T N lk loc cs).r its call fr H n w u⟩
theorem lstC_ok {P : Program} {T : Tabs} {its : Nat → Option (Nat × Nat)} {call : CallA} {N lk loc : Nat} : ∀ (cs : List Code) (fr : Fr) (H : Hp) (n w : Nat) (u : Bool) (q : Ex × Sta), (lstC P T N lk loc cs).r its call fr H n w u = .ok q → runL P T call its N lk loc cs u ⟨fr, H, n, w⟩ = .ok q
  | [], _, _, _, _, _, _, h => h
  | c :: cs, fr, H, n, w, u, q, h => by
    have fin : ∀ (r : Ex × Sta) (u : Bool), (if r.1.k = 0 then (lstC P T N lk loc cs).r its call r.2.fr r.2.H r.2.n r.2.wr u else .ok r) = .ok q → (if r.1.k = 0 then runL P T call its N lk loc cs u r.2 else .ok r) = .ok q := by
      intro r u h
      split at h
      · rename_i h0
        rw [if_pos h0]
        exact lstC_ok cs _ _ _ _ _ _ h
      · rename_i h0
        rw [if_neg h0]
        exact h
    unfold lstC at h
    simp only [runL]
    cases hq : rfOf c with
    | some q' =>
      rw [hq] at h
      simp only [ifB_eq, bindX_eq, andThen_eq] at h ⊢
      split at h
      · cases h
      · rename_i hu
        rw [if_neg hu]
        obtain ⟨r, h1, h2⟩ := bindR_ok h
        rw [h1]
        exact fin r true h2
    | none =>
      rw [hq] at h
      simp only [bindX_eq, andThen_eq] at h ⊢
      obtain ⟨r, h1, h2⟩ := bindR_ok h
      rw [codC_ok _ _ _ _ _ _ h1]
      exact fin r u h2
/-- A function's code. -/
def bdyC (P : Program) (T : Tabs) (N lk loc : Nat) (c : Code) : LnC := match hasRF c with
  | true => lstC P T N lk loc (flat c)
  | false => ⟨fun _ call fr H n w _ => (codC P T N lk loc c).r call fr H n w⟩
theorem bdyC_ok {P : Program} {T : Tabs} {its : Nat → Option (Nat × Nat)} {call : CallA} {N lk loc : Nat} (c : Code) (fr : Fr) (H : Hp) (n w : Nat) (q : Ex × Sta) (h : (bdyC P T N lk loc c).r its call fr H n w false = .ok q) : bodyA P T call its N lk loc c ⟨fr, H, n, w⟩ = .ok q := by
  unfold bdyC at h
  unfold bodyA
  cases hr : hasRF c with
  | true =>
    rw [hr] at h
    rw [if_pos rfl]
    exact lstC_ok _ _ _ _ _ _ _ h
  | false =>
    rw [hr] at h
    rw [if_neg Bool.false_ne_true]
    exact codC_ok _ _ _ _ _ _ h
def lenLe : List AV → Nat → Bool
  | [], _ => true
  | _ :: l, n => Nat.casesOn n false (lenLe l)
theorem lenLe_eq : ∀ (l : List AV) (n : Nat), lenLe l n = Nat.ble l.length n
  | [], _ => by simp [lenLe, Nat.ble]
  | _ :: _, 0 => rfl
  | _ :: l, n + 1 => by
    show lenLe l n = _
    rw [lenLe_eq l n]
    rfl
/-- The first frame, its slots one behind the other. -/
structure ArC where
  f : List AV → Fr → Fr
def arC (N : Nat) : Nat → Nat → ArC
  | 0, _ => ⟨fun _ fr => fr⟩
  | k + 1, i => ⟨fun l fr => List.casesOn l fr fun x l' => (arC N k (i + 1)).f l' ((wrF N (some i)).s fr x)⟩
theorem arC_eq (N : Nat) : ∀ (k i : Nat) (l : List AV) (fr : Fr), l.length ≤ k → (arC N k i).f l fr = frArgs N l i fr
  | 0, _, [], _, _ => rfl
  | 0, _, _ :: _, _, h => by simp at h
  | _ + 1, _, [], _, _ => rfl
  | k + 1, i, x :: l, fr, h => by
    show (arC N k (i + 1)).f l ((wrF N (some i)).s fr x) = _
    rw [arC_eq N k (i + 1) l _ (by simpa using h), wrF_eq]
    rfl
def fnC (P : Program) (T : Tabs) (lk g : Nat) : FnC := match T.fnAt g with
  | some fn => match fn.body with
    | some c => ⟨fun its call args H n => ifB (lenLe args fn.ntmps) (bindX ((bdyC P T fn.ntmps lk (g * 1000000) c).r its call ((arC fn.ntmps fn.ntmps 0).f args noFr) H n 0 false) fun r =>
        ifB (Nat.beq r.1.k 0 || Nat.beq r.1.k 3) (optD ((reC T fn.results.toList).g r.2.H r.2.fr) (.error (g * 1000000 + 998)) fun xs => natL (wm r.2.wr n) fun m => natL r.2.n fun n' => .ok ⟨oneA xs, r.2.H, n', m⟩) (.error (g * 1000000 + 997))) (.error (g * 1000000 + 994))⟩
    | none => ⟨fun _ _ _ _ _ => .error (g * 1000000 + 996)⟩
  | none => ⟨fun _ _ _ _ _ => .error (g * 1000000 + 995)⟩
def callF (P : Program) (T : Tabs) (ext : Nat → List AV → Hp → Nat → Option (R Out)) (lk : Nat) : Nat → CallA
  | 0 => fun g _ _ _ => .error (g * 1000000 + 999)
  | f + 1 => fun g args H n => match ext g args H n with
    | some r => r
    | none => natL g fun g => (fnC P T lk g).r (itsOf ext) (callF P T ext lk f) args H n
/-- One call, what it calls being known. -/
def callG (P : Program) (T : Tabs) (ext : Nat → List AV → Hp → Nat → Option (R Out)) (lk : Nat) (call : CallA) : CallA := fun g args H n => match ext g args H n with
    | some r => r
    | none => match T.fnAt g with
      | some fn => match fn.body with
        | some c => if Nat.ble args.length fn.ntmps then bindR (bodyA P T call (itsOf ext) fn.ntmps lk (g * 1000000) c ⟨frArgs fn.ntmps args 0 noFr, H, n, 0⟩) fun r =>
          if r.1.k = 0 ∨ r.1.k = 3 then bindR (orErr (g * 1000000 + 998) (resA T r.2.H r.2.fr fn.results.toList)) fun xs => .ok ⟨oneA xs, r.2.H, r.2.n, r.2.wr % 2 ^ n⟩ else .error (g * 1000000 + 997)
          else .error (g * 1000000 + 994)
        | none => .error (g * 1000000 + 996)
      | none => .error (g * 1000000 + 995)
theorem callF_G {P : Program} {T : Tabs} {ext : Nat → List AV → Hp → Nat → Option (R Out)} {lk f g : Nat} {args : List AV} {H : Hp} {n : Nat} {out : Out} (h : callF P T ext lk (f + 1) g args H n = .ok out) : callG P T ext lk (callF P T ext lk f) g args H n = .ok out := by
  simp only [callF] at h
  unfold callG
  cases hr : ext g args H n with
  | some r =>
    rw [hr] at h
    exact h
  | none =>
    rw [hr] at h
    simp only [natL_eq] at h ⊢
    unfold fnC at h
    cases hfn : T.fnAt g with
    | none => rw [hfn] at h; cases h
    | some fn =>
      rw [hfn] at h
      simp only at h ⊢
      cases hc : fn.body with
      | none => rw [hc] at h; cases h
      | some c =>
        rw [hc] at h
        simp only [or_beq] at h
        simp only [ifB_eq, bindX_eq, reC_eq, natL_eq, lenLe_eq] at h ⊢
        split at h
        · rename_i hl
          rw [if_pos hl]
          rw [arC_eq _ _ _ _ _ (Nat.le_of_ble_eq_true hl)] at h
          obtain ⟨r, h1, h2⟩ := bindR_ok h
          rw [bdyC_ok _ _ _ _ _ _ h1]
          show (if r.1.k = 0 ∨ r.1.k = 3 then _ else _) = _
          split at h2
          · rename_i hk
            rw [if_pos hk]
            cases hx : resA T r.2.H r.2.fr fn.results.toList with
            | none => rw [hx] at h2; cases h2
            | some xs => rw [hx] at h2; exact h2
          · cases h2
        · cases h
#print axioms callF_G
end Go.Proofs.YthklnpkjlepagaaGreatDoor.Ab
