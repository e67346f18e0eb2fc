/- Each operation, as it is run. -/
import Derived.Test.YthklnpkjlepagaaGreatDoorQbg
namespace Go.Proofs.YthklnpkjlepagaaGreatDoor.Ab
open Go.RowKit
variable {S : Nat → Value}

def unC (P : Program) (op : UnOp) : MvC := match op with
  | .not => ⟨fun x => optD (boolF x) (x.exact.bind fun v => (pureRun P (Op.unary .not v)).map ofV) fun b => some (AV.ex (.bool (ifB b false true)))⟩
  | op => ⟨fun x => x.exact.bind fun v => (pureRun P (Op.unary op v)).map ofV⟩
theorem unC_eq (P : Program) (op : UnOp) (x : AV) : (unC P op).f x = x.exact.bind fun v => (pureRun P (Op.unary op v)).map ofV := by
  cases op <;> first
    | rfl
    | skip
  show optD (boolF x) _ _ = _
  rw [boolF_eq]
  cases h : x.bool with
  | none => rfl
  | some b =>
    rw [optD_some]
    have : x.exact = some (.bool b) := by
      unfold AV.bool at h
      unfold AV.exact
      split at h
      · rename_i h0
        rw [if_pos h0]
        split at h
        · rename_i c hv
          cases h
          rw [hv]
        · cases h
      · cases h
    rw [this]
    cases b <;> rfl
def exF (x : AV) (i : Nat) : Option AV := ifB (Nat.beq x.t 2) ((nthC i).f x.ks) none
theorem exF_eq (x : AV) (i : Nat) : exF x i = xExtract x i := by
  unfold exF xExtract
  rw [ifE, nthC_eq]

def mapF (H : Hp) (m : AV) : Option (Blk × AV) := ifB (Nat.beq m.t 13) (opt (hpG H m.a) fun B => opt (entsOf B.cs) fun e => some (B, e)) none
theorem mapF_eq (H : Hp) (m : AV) : mapF H m = mapOf H m := by
  unfold mapF mapOf
  rw [ifE, hpG_eq, opt_eq]
  cases H.get m.a with
  | none => rfl
  | some B =>
    simp only [Option.bind_some, opt_eq]
    cases entsOf B.cs <;> rfl
def xMapGetF (P : Program) (T : Tabs) (H : Hp) (t : Nat) (m k : AV) (ok : Bool) : Option AV := opt (T.tiAt t) fun ti => ifB (Nat.beq ti.kind 10) (opt (T.tiAt ti.len) fun tk => ifB (Nat.beq tk.kind 5) (opt k.str fun s => opt (mapF H m) fun p => Option.map (fun (r : AV × Bool) => if ok then AV.tup [r.1, AV.ex (.bool r.2)] else r.1) (match findA s p.2.ks 0 with
  | .bad => none
  | .no => ((pureRun P (zeroValue ti.elem)).map ofV).map fun v => (v, false)
  | .at_ _ y => y.ks.head?.map fun v => (v, true))) none) none
theorem xMapGetF_eq (P : Program) (T : Tabs) (H : Hp) (t : Nat) (m k : AV) (ok : Bool) : xMapGetF P T H t m k ok = xMapGet P T H t m k ok := by
  unfold xMapGetF xMapGet
  simp only [opt_eq, ifE, mapF_eq]
  rfl
def xMapPutF (T : Tabs) (H : Hp) (n t : Nat) (m k x : AV) : Option Out := opt (T.tiAt t) fun ti => ifB (Nat.beq ti.kind 10) (opt (T.tiAt ti.len) fun tk => ifB (Nat.beq tk.kind 5) (opt k.str fun s => opt (mapF H m) fun p => Option.map (fun e => ⟨AV.ex undef, hpS H m.a (some ⟨p.1.ty, [e]⟩), n, bit1 m.a⟩) (match findA s p.2.ks 0 with
  | .bad => none
  | .no => some (AV.ents (p.2.ks ++ [AV.ent s x]))
  | .at_ i _ => some (AV.ents (p.2.ks.set i (AV.ent s x))))) none) none
theorem xMapPutF_eq (T : Tabs) (H : Hp) (n t : Nat) (m k x : AV) : xMapPutF T H n t m k x = xMapPut T H n t m k x := by
  unfold xMapPutF xMapPut
  simp only [opt_eq, ifE, mapF_eq, hpS_eq]
  rfl

/-- One that makes a value alone. -/
def vaC (P : Program) (T : Tabs) (o : Oper) : VaC := match o.op with
  | .move x | .assign x => ⟨fun _ fr => some ((evC T x).g fr)⟩
  | .pick c a b => ⟨fun _ fr => opt (boolF ((evC T c).g fr)) fun t => some (ifB t ((evC T a).g fr) ((evC T b).g fr))⟩
  | .build t ps => bdC T t ps.toList
  | .load t a => ⟨fun H fr => xLoadF T H t ((evC T a).g fr)⟩
  | .nilCheck x => ⟨fun _ fr => nlF ((evC T x).g fr)⟩
  | .binOp op t x y _ => ⟨fun _ fr => (biC P T op t x y).f ((evC T x).g fr) ((evC T y).g fr)⟩
  | .unOp op _ x => ⟨fun _ fr => (unC P op).f ((evC T x).g fr)⟩
  | .convert s d x => ⟨fun H fr => (cvC P T s d).f H ((evC T x).g fr)⟩
  | .makeInterface t x => ⟨fun _ fr => (T.tiAt t).bind fun ti => if ti.kind = 7 then none else some (AV.ifc t ((evC T x).g fr))⟩
  | .makeFunc fn first cap => if first.size = 0 ∧ cap.size = 0 then ⟨fun _ _ => some (AV.ex (.func fn #[] #[]))⟩ else ⟨fun _ fr => some (AV.fn (.func fn #[] #[]) first.size ((evsC T first.toList).g fr ++ (evsC T cap.toList).g fr))⟩
  | .slice t x lo hi none => ⟨fun H fr => match xSliceA T H t ((evC T x).g fr) ((eoC T lo).g fr) ((eoC T hi).g fr) with
    | some y => some y
    | none => xSlice T t ((evC T x).g fr) ((eoC T lo).g fr) ((eoC T hi).g fr)⟩
  | .fieldAddr t x f => ⟨fun _ fr => (faC T t f).f ((evC T x).g fr)⟩
  | .field t x f => ⟨fun _ fr => (fdC T t f).f ((evC T x).g fr)⟩
  | .indexAddr t x i => ⟨fun _ fr => (iaC T t).f ((evC T x).g fr) ((evC T i).g fr)⟩
  | .index t x i => ⟨fun _ fr => (ixC T t).f ((evC T x).g fr) ((evC T i).g fr)⟩
  | .sliceToArrayPointer t x => ⟨fun _ fr => xArrAt T t ((evC T x).g fr)⟩
  | .extract x i => ⟨fun _ fr => exF ((evC T x).g fr) i⟩
  | .lookup t x i ok => ⟨fun H fr => xMapGetF P T H t ((evC T x).g fr) ((evC T i).g fr) ok⟩
  | .call c => (match c.argTypes.toList, c.args.toList with
      | t :: _, [x] => ⟨fun _ fr => (lnC T t).f ((evC T x).g fr)⟩
      | _, _ => ⟨fun _ _ => none⟩)
  | _ => ⟨fun _ _ => none⟩
theorem vaC_eq {P : Program} {T : Tabs} {o : Oper} (hk : kindOf o ≤ 1) (H : Hp) (n : Nat) (fr : Fr) : sop P T H n fr o = ((vaC P T o).g H fr).map fun y => ⟨y, H, n, 0⟩ := by
  unfold kindOf at hk
  unfold vaC sop
  cases ho : o.op <;> simp only [ho] at hk ⊢ <;> first
    | (simp at hk; done)
    | simp only [evC_eq, evsC_eq, eoC_eq, boolF_eq, opt_eq, ifB_eq, bdC_eq, xLoadF_eq, nlF_eq, biC_eq, unC_eq, faC_eq, fdC_eq, iaC_eq, ixC_eq, exF_eq, cvC_eq, xMapGetF_eq]
    | skip
  case move x => rfl
  case assign x => rfl
  case pick c a b => cases (evO T fr c).bool <;> rfl
  case unOp op t x =>
    cases (evO T fr x).exact with
    | none => rfl
    | some v =>
      simp only [Option.bind_some]
      cases pureRun P (Op.unary op v) <;> rfl
  case convert s d x =>
    unfold xConv
    cases (evO T fr x).exact with
    | none => rfl
    | some v =>
      simp only
      cases pureRun P (convert s d v) <;> rfl
  case makeInterface t x =>
    cases T.tiAt t with
    | none => rfl
    | some ti =>
      simp only [Option.bind_some]
      split <;> rfl
  case makeFunc fn first cap =>
    split
    · rfl
    · rfl
  case slice t x lo hi mx =>
    cases mx with
    | some m => rfl
    | none => rfl
  case call c =>
    cases hc : c.callee with
    | value f => simp [hc] at hk
    | invoke r m => simp [hc] at hk
    | builtin b =>
      simp only [hc] at hk ⊢
      cases b <;> simp only at hk ⊢ <;> first
        | (simp at hk; done)
        | skip
      generalize c.argTypes.toList = la
      generalize c.args.toList = lb
      rcases la with _ | ⟨t, la⟩ <;> rcases lb with _ | ⟨s, _ | ⟨x, lb⟩⟩ <;> first
        | rfl
        | (simp only [lnC_eq])

/-- One that turns memory. -/
structure MeC where
  f : Hp → Nat → Fr → Option Out
def meC (P : Program) (T : Tabs) (o : Oper) : MeC := match o.op with
  | .alloc t => (match T.tiAt t with
    | some ti => ⟨fun H n _ => some (newF H n t (exZ ti))⟩
    | none => ⟨fun _ _ _ => none⟩)
  | .box t x => ⟨fun H n fr => opt (cellsF ((evC T x).g fr)) fun ks => some (newF H n t ks)⟩
  | .store t a x => ⟨fun H n fr => (stoC T t).f H n ((evC T a).g fr) ((evC T x).g fr)⟩
  | .makeSlice t l c => ⟨fun H n fr => (mkC T t).f H n ((evC T l).g fr) ((evC T c).g fr)⟩
  | .buildSlice t len ps => ⟨(bmC T t len ps.toList).f⟩
  | .mapUpdate t m k x => ⟨fun H n fr => xMapPutF T H n t ((evC T m).g fr) ((evC T k).g fr) ((evC T x).g fr)⟩
  | .insert t m k x => ⟨fun H n fr => xMapPutF T H n t ((evC T m).g fr) ((evC T k).g fr) ((evC T x).g fr)⟩
  | .call c => (match c.callee with
    | .builtin .append => (match c.argTypes.toList, c.args.toList with
      | [t, tx], [s, x] => ⟨fun H n fr => (apC T t tx).f H n ((evC T s).g fr) ((evC T x).g fr)⟩
      | _, _ => ⟨fun _ _ _ => none⟩)
    | _ => ⟨fun H n fr => sop P T H n fr o⟩)
  | _ => ⟨fun H n fr => sop P T H n fr o⟩
theorem meC_eq (P : Program) (T : Tabs) (o : Oper) (H : Hp) (n : Nat) (fr : Fr) : (meC P T o).f H n fr = sop P T H n fr o := by
  unfold meC
  cases ho : o.op <;> simp only [] <;> first
    | rfl
    | skip
  case alloc t =>
    unfold sop
    rw [ho]
    simp only
    cases T.tiAt t with
    | none => rfl
    | some ti => simp only [newF_eq]; rfl
  case box t x =>
    unfold sop
    rw [ho]
    simp only [evC_eq, opt_eq, cellsF_eq, newF_eq]
    cases (evO T fr x).cells <;> rfl
  case store t a x =>
    unfold sop
    rw [ho]
    simp only [evC_eq, stoC_eq]
  case makeSlice t l c =>
    unfold sop
    rw [ho]
    simp only [evC_eq, mkC_eq]
  case buildSlice t len ps =>
    unfold sop
    rw [ho]
    simp only [bmC_eq]
  case mapUpdate t m k x =>
    unfold sop
    rw [ho]
    simp only [evC_eq, xMapPutF_eq]
  case insert t m k x =>
    unfold sop
    rw [ho]
    simp only [evC_eq, xMapPutF_eq]
  case call c =>
    cases hc : c.callee with
    | value f => rfl
    | invoke r m => rfl
    | builtin b =>
      cases b <;> simp only [] <;> first
        | rfl
        | skip
      unfold sop
      rw [ho]
      simp only [hc]
      generalize c.argTypes.toList = la
      generalize c.args.toList = lb
      rcases la with _ | ⟨t, _ | ⟨tx, _ | ⟨ty, la⟩⟩⟩ <;> rcases lb with _ | ⟨s, _ | ⟨x, _ | ⟨y, lb⟩⟩⟩ <;> first
        | rfl
        | (simp only [evC_eq, apC_eq]; done)

def isCall (o : Oper) : Bool := match o.op with
  | .call c => match c.callee with
    | .value _ => true
    | _ => false
  | _ => false
theorem isCall_no {T : Tabs} {fr : Fr} {o : Oper} (h : isCall o = false) : calleeOf T fr o = none := by
  unfold isCall at h
  unfold calleeOf
  cases ho : o.op <;> simp only [ho] at h ⊢
  rename_i c
  cases hc : c.callee <;> simp [hc] at h ⊢
theorem isCall_yes {T : Tabs} {fr : Fr} {o : Oper} (h : isCall o = true) : ∃ x, calleeOf T fr o = some x := by
  unfold isCall at h
  unfold calleeOf
  cases ho : o.op <;> simp only [ho] at h ⊢ <;> first
    | (cases h; done)
    | skip
  rename_i c
  cases hc : c.callee <;> simp [hc] at h ⊢
/-- A call of a function. -/
structure ClC where
  r : CallA → Hp → Nat → Fr → R Out
def clC (P : Program) (T : Tabs) (loc : Nat) (o : Oper) : ClC := match o.op with
  | .call c => (match c.callee with
    | .value (.func g) => ⟨fun call H n fr => call g ((evsC T c.args.toList).g fr) H n⟩
    | .value f => ⟨fun call H n fr => bindX (orErr (loc + 500) (fnOf ((evC T f).g fr) ((evsC T c.args.toList).g fr))) fun p => call p.1 p.2 H n⟩
    | _ => ⟨fun call H n fr => opA P T call loc H n fr o⟩)
  | _ => ⟨fun call H n fr => opA P T call loc H n fr o⟩
theorem clC_eq (P : Program) (T : Tabs) (call : CallA) (loc : Nat) (H : Hp) (n : Nat) (fr : Fr) (o : Oper) : (clC P T loc o).r call H n fr = opA P T call loc H n fr o := by
  unfold clC
  cases ho : o.op <;> first
    | rfl
    | skip
  rename_i c
  simp only
  cases hc : c.callee with
  | value f =>
    cases f <;> simp only [opA, calleeOf, ho, hc, evC_eq, evsC_eq, bindX_eq]
    rfl
  | invoke r m => rfl
  | builtin b => rfl

/-- An operation, and what comes behind it. -/
structure RnC where
  r : CallA → Fr → Hp → Nat → (AV → Hp → Nat → Nat → R Sta) → R Sta
def runC (P : Program) (T : Tabs) (loc : Nat) (o : Oper) : RnC := if kindOf o ≤ 1 then ⟨fun _ fr H n k => optD ((vaC P T o).g H fr) (.error loc) fun x => k x H n 0⟩
  else if isCall o then ⟨fun call fr H n k => bindX ((clC P T loc o).r call H n fr) fun out => natL out.n fun n' => natL out.wr fun m => k out.x out.H n' m⟩
  else if kindOf o ≤ 2 then ⟨fun _ fr H n k => optD ((meC P T o).f H n fr) (.error loc) fun out => natL out.n fun n' => k out.x out.H n' 0⟩
  else ⟨fun _ fr H n k => optD ((meC P T o).f H n fr) (.error loc) fun out => natL out.n fun n' => natL out.wr fun m => k out.x out.H n' m⟩
theorem optD_ok {α : Type} {x : Option α} {l : Nat} {f : α → R Sta} {s : Sta} (h : optD x (.error l) f = .ok s) : ∃ a, x = some a ∧ f a = .ok s := by
  cases x with
  | none => cases h
  | some a => exact ⟨a, rfl, h⟩
theorem runC_ok {P : Program} {T : Tabs} {call : CallA} {loc : Nat} {o : Oper} {fr : Fr} {H : Hp} {n : Nat} {k : AV → Hp → Nat → Nat → R Sta} {s : Sta} (h : (runC P T loc o).r call fr H n k = .ok s) : ∃ out, opA P T call loc H n fr o = .ok out ∧ k out.x out.H out.n out.wr = .ok s := by
  have key : ∀ {out : Out}, isCall o = false → sop P T H n fr o = some out → opA P T call loc H n fr o = .ok out := by
    intro out hc h
    unfold opA
    rw [isCall_no hc]
    simp only [h, orErr]
  have hcl : kindOf o ≤ 2 → isCall o = false := by
    intro hk
    cases hc : isCall o with
    | false => rfl
    | true =>
      obtain ⟨x, hx⟩ := isCall_yes (T := T) (fr := fr) hc
      rw [callee_kind hk] at hx
      cases hx
  unfold runC at h
  split at h
  · rename_i hk
    obtain ⟨x, h1, h2⟩ := optD_ok h
    refine ⟨⟨x, H, n, 0⟩, key (hcl (by omega)) ?_, h2⟩
    rw [vaC_eq hk, h1]
    rfl
  · split at h
    · rename_i hk hc
      simp only [bindX_eq, clC_eq, natL_eq] at h
      obtain ⟨out, h1, h2⟩ := bindR_ok h
      exact ⟨out, h1, h2⟩
    · rename_i hk hc
      split at h
      · rename_i hk2
        obtain ⟨out, h1, h2⟩ := optD_ok h
        rw [meC_eq] at h1
        simp only [natL_eq] at h2
        refine ⟨out, key (hcl hk2) h1, ?_⟩
        rw [(sop_kind hk2 h1).1]
        exact h2
      · obtain ⟨out, h1, h2⟩ := optD_ok h
        rw [meC_eq] at h1
        simp only [natL_eq] at h2
        exact ⟨out, key (by simpa using hc) h1, h2⟩
#print axioms runC_ok
end Go.Proofs.YthklnpkjlepagaaGreatDoor.Ab
