/- Regions that draw their order: the one order that is reckoned, and what holds of its record. -/
import Derived.Test.YthklnpkjlepagaaGreatDoorQl
namespace Go.Proofs.YthklnpkjlepagaaGreatDoor.Ab
open Go.RowKit
variable {S : Nat → Value}

/-- What is loaded out of cells. -/
def loadCs (ti : TI) (cs : List AV) : Option AV := if ti.kind = 1 ∨ ti.kind = 2 then (if ti.size ≤ cs.length then some (AV.agg (cs.take ti.size)) else none) else cs.head?
theorem loadCs_pre {ti : TI} {cs ws : List AV} {y : AV} (h : cs.take ws.length = ws) (e : loadCs ti ws = some y) : loadCs ti cs = some y := by
  have hl : ws.length ≤ cs.length := by
    have := congrArg List.length h
    simp at this
    omega
  unfold loadCs at e ⊢
  split at e
  · rename_i hk
    rw [if_pos hk]
    split at e
    · rename_i hs
      cases e
      rw [if_pos (by omega)]
      congr 2
      conv => rhs; rw [← h]
      rw [List.take_take, Nat.min_eq_left hs]
    · cases e
  · rename_i hk
    rw [if_neg hk]
    cases ws with
    | nil => cases e
    | cons w ws =>
      cases cs with
      | nil => simp at hl
      | cons c cs =>
        simp at h e
        subst e
        simp [h.1]
/-- A load out of a block that another one writes to: the cells that it loads. -/
def watched (T : Tabs) (H : Hp) (fr : Fr) (o : Oper) : Option (Nat × Nat × List AV × AV) := match o.op with
  | .load t x => if (evO T fr x).t = 3 then (T.tiAt t).bind fun ti => (H.get (evO T fr x).a).bind fun B => (loadCs ti ((B.cs.drop (evO T fr x).b).take ti.size)).map fun y => ((evO T fr x).a, (evO T fr x).b, (B.cs.drop (evO T fr x).b).take ti.size, y) else none
  | _ => none


/-- What is kept of an operation for those behind it: its place, the blocks that it turned, that it looked at (none: any). -/
structure Rec where
  j : Nat
  asg : Nat
  ts : Option Nat
def badR (bi : Nat) (recs : List Rec) : List Rec := recs.filter fun r => !bi.testBit r.j
def orAsg (l : List Rec) : Nat := l.foldr (fun r m => r.asg ||| m) 0
theorem orAsg_bit : ∀ {l : List Rec} {r : Rec} {b : Nat}, r ∈ l → r.asg.testBit b = true → (orAsg l).testBit b = true
  | q :: l, r, b, h, hb => by
    simp only [orAsg, List.foldr_cons, Nat.testBit_or, Bool.or_eq_true]
    rcases List.mem_cons.1 h with rfl | h
    · exact Or.inl hb
    · exact Or.inr (orAsg_bit h hb)
def lateOk (ow : Nat) (bad : List Rec) : Bool := Nat.beq ow 0 || bad.all fun r => match r.ts with
  | some m => Nat.beq (ow &&& m) 0
  | none => false
theorem and_zero {a b k : Nat} (h : Nat.beq (a &&& b) 0 = true) (ha : a.testBit k = true) (hb : b.testBit k = true) : False := by
  have h := Nat.eq_of_beq_eq_true h
  have : (a &&& b).testBit k = true := by rw [Nat.testBit_and, ha, hb]; rfl
  rw [h] at this
  simp at this

/-- The blocks that an operation turned: old ones, new ones; as bits. -/
def asgL (n : Nat) (out : Out) : List Nat := bitsL (out.wr % 2 ^ n) ++ List.range' n (out.n - n)
def newM (n n' : Nat) : Nat := Nat.shiftLeft (2 ^ (n' - n) - 1) n
def asgM (n : Nat) (out : Out) : Nat := (out.wr % 2 ^ n) ||| newM n out.n
theorem mem_asgL {n b : Nat} {out : Out} : b ∈ asgL n out ↔ (out.wr.testBit b = true ∧ b < n) ∨ (n ≤ b ∧ b < out.n) := by
  unfold asgL
  rw [List.mem_append, mem_bitsL, Nat.testBit_mod_two_pow, List.mem_range'_1]
  simp only [Bool.and_eq_true, decide_eq_true_eq]
  constructor
  · rintro (h | h)
    · exact Or.inl ⟨h.2, h.1⟩
    · exact Or.inr (by omega)
  · rintro (h | h)
    · exact Or.inl ⟨h.2, h.1⟩
    · exact Or.inr (by omega)
theorem newM_bit {n n' b : Nat} (h1 : n ≤ b) (h2 : b < n') : (newM n n').testBit b = true := by
  show (((2 ^ (n' - n) - 1) <<< n).testBit b) = true
  rw [Nat.testBit_shiftLeft, Nat.testBit_two_pow_sub_one]
  simp
  omega
theorem asgM_bit {n b : Nat} {out : Out} (h : b ∈ asgL n out) : (asgM n out).testBit b = true := by
  unfold asgM
  rw [Nat.testBit_or, Nat.testBit_mod_two_pow]
  rcases mem_asgL.1 h with ⟨h1, h2⟩ | ⟨h1, h2⟩
  · simp [h1, h2]
  · simp [newM_bit h1 h2]

/-- Who waits for whom, whether an operation must look at others, whether others look at it. -/
structure Plan where
  bi : Nat
  chk : Bool
  keep : Bool
def needs (i j : Nat) : Bool := (Nat.beq i 1 && Nat.ble 2 j) || (Nat.beq i 3 && Nat.ble 1 j)
def chkAt (ops : Array Oper) (bs : List Nat) (i : Nat) : Bool := match ops[i]? with
  | some o => (List.range i).any fun j => match ops[j]? with
    | some p => needs (kindOf o) (kindOf p) && !(bs.getD i 0).testBit j
    | none => false
  | none => false
def anyChk (ops : Array Oper) (bs : List Nat) : Bool := (List.range ops.size).any (chkAt ops bs)
def planAt (ops : Array Oper) (bs : List Nat) (a : Bool) (i : Nat) : Plan := ⟨bs.getD i 0, chkAt ops bs i, a && (match ops[i]? with
  | some o => Nat.ble 1 (kindOf o)
  | none => false)⟩
def planOf (ops : Array Oper) (bs : List Nat) : List Plan := (List.range ops.size).map (planAt ops bs (anyChk ops bs))

theorem chk_no {ops : Array Oper} {bs : List Nat} {i j : Nat} {o p : Oper} (hi : ops[i]? = some o) (hj : ops[j]? = some p) (hlt : j < i) (h : chkAt ops bs i = false) (hn : needs (kindOf o) (kindOf p) = true) : (bs.getD i 0).testBit j = true := by
  unfold chkAt at h
  rw [hi] at h
  simp only at h
  have := List.any_eq_false.1 h j (List.mem_range.2 hlt)
  rw [hj] at this
  simpa [hn] using this
theorem chk_any {ops : Array Oper} {bs : List Nat} {i : Nat} (h : chkAt ops bs i = true) : anyChk ops bs = true := by
  unfold anyChk
  refine List.any_eq_true.2 ⟨i, List.mem_range.2 ?_, h⟩
  rcases Nat.lt_or_ge i ops.size with h1 | h1
  · exact h1
  · unfold chkAt at h
    rw [Array.getElem?_eq_none h1] at h
    cases h

structure StepR where
  e : Ent
  s : Sta
  r : List Rec
  w : Bool

/-- Behind an operation that was done: what it came to, on which blocks. -/
def finE (N loc i : Nat) (p : Plan) (o : Oper) (s : Sta) (recs : List Rec) (ts : Option Nat) (H' : Hp) (out : Out) : R StepR :=
  if !p.chk || lateOk (out.wr % 2 ^ s.n) (badR p.bi recs) then .ok ⟨⟨o, true, out.x, asgL s.n out, out.H, ts.map bitsL, s.n, out.n, none⟩, ⟨putA N s.fr o.dst out.x, H', out.n, (out.wr % 2 ^ s.n) ||| s.wr⟩, if p.keep then ⟨i, asgM s.n out, ts⟩ :: recs else recs, false⟩ else .error (loc + 400)

def stepE (P : Program) (T : Tabs) (call : CallA) (N loc : Nat) (ops : Array Oper) (i : Nat) (p : Plan) (o : Oper) (s : Sta) (recs : List Rec) : R StepR :=
  bindR (orErr loc (wantedA ops s.fr o)) fun b => if b then
    match calleeOf T s.fr o with
    | some _ => if Nat.beq (if p.chk then orAsg (badR p.bi recs) else 0) 0 then bindR (opA P T call loc s.H s.n s.fr o) fun out => finE N loc i p o s recs none out.H out
      else bindR (opA P T call loc (eraseH s.H (bitsL (orAsg (badR p.bi recs)))) s.n s.fr o) fun out => finE N loc i p o s recs none (asgH s.H (asgL s.n out) out.H) out
    | none => if p.chk && !Nat.beq (touchM T s.fr o &&& orAsg (badR p.bi recs)) 0 then bindR (orErr (loc + 300) (watched T s.H s.fr o)) fun q => .ok ⟨⟨o, true, q.2.2.2, [], s.H, some [], s.n, s.n, some (q.1, q.2.1, q.2.2.1)⟩, ⟨putA N s.fr o.dst q.2.2.2, s.H, s.n, s.wr⟩, recs, true⟩
      else bindR (opA P T call loc s.H s.n s.fr o) fun out => finE N loc i p o s recs (some (touchM T s.fr o)) out.H out
  else .ok ⟨⟨o, false, AV.ex undef, [], s.H, some [], s.n, s.n, none⟩, ⟨putA N s.fr o.dst (AV.ex undef), s.H, s.n, s.wr⟩, recs, false⟩

def drawGo (P : Program) (T : Tabs) (call : CallA) (N loc : Nat) (ops : Array Oper) : List Oper → List Plan → Nat → Sta → List Rec → R (List Ent × Sta × Bool)
  | [], _, _, s, _ => .ok ([], s, false)
  | o :: os, ps, i, s, recs => bindR (stepE P T call N (loc + i) ops i (ps.headD ⟨0, true, true⟩) o s recs) fun r =>
    bindR (drawGo P T call N loc ops os ps.tail (i + 1) r.s r.r) fun q => .ok (r.e :: q.1, q.2.1, r.w || q.2.2)

def dull (e : Ent) : Bool := e.asg.isEmpty && (match e.ts with
  | some l => l.isEmpty
  | none => false)

/-- The frame, the blocks behind some of them. -/
def frT (N : Nat) (E : List Ent) (fr : Fr) : Fr := E.foldl (fun fr e => putA N fr e.o.dst e.x) fr
def hpT (E : List Ent) (H : Hp) : Hp := E.foldl (fun H e => asgH H e.asg e.res) H

/-- What holds of an operation behind others. -/
structure GoodAt (P : Program) (T : Tabs) (call : CallA) (N loc : Nat) (ops : Array Oper) (bs : List Nat) (s0 : Sta) (i : Nat) (pre : List Ent) (e : Ent) : Prop where
  want : wantedA ops (frT N pre s0.fr) e.o = some e.b
  no : e.b = false → e.x = AV.ex undef ∧ e.asg = [] ∧ e.n1 = e.n0
  yes : e.b = true → e.wt = none → ∃ out V, opA P T call (loc + i) V e.n0 (frT N pre s0.fr) e.o = .ok out ∧ e.x = out.x ∧ (∀ b ∈ e.asg, e.res.get b = out.H.get b) ∧ e.n1 = out.n ∧ (∀ b, b ∈ e.asg ↔ (out.wr.testBit b = true ∧ b < e.n0) ∨ (e.n0 ≤ b ∧ b < e.n1)) ∧
    ∀ b B, V.get b = some B → (hpT pre s0.H).get b = some B ∧ (∀ l, e.ts = some l → b ∈ l) ∧ ∀ (j : Nat) (ej : Ent), pre[j]? = some ej → (bs.getD i 0).testBit j = false → b ∉ ej.asg
  wat : ∀ b o ws, e.wt = some (b, o, ws) → e.asg = [] ∧ e.n1 = e.n0 ∧ ∃ t x ti, e.o.op = .load t x ∧ (evO T (frT N pre s0.fr) x).t = 3 ∧ (evO T (frT N pre s0.fr) x).a = b ∧ (evO T (frT N pre s0.fr) x).b = o ∧ T.tiAt t = some ti ∧ loadCs ti ws = some e.x
  late : ∀ (j : Nat) (ej : Ent), pre[j]? = some ej → (bs.getD i 0).testBit j = false → ∀ b ∈ e.asg, b < e.n0 → dull ej = false → ∃ l, ej.ts = some l ∧ b ∉ l
  le : e.n0 ≤ e.n1
  start : s0.n ≤ e.n0
  chain : ∀ (j : Nat) (ej : Ent), pre[j]? = some ej → ej.n1 ≤ e.n0

def GoodL (P : Program) (T : Tabs) (call : CallA) (N loc : Nat) (ops : Array Oper) (bs : List Nat) (s0 : Sta) : Nat → List Ent → List Ent → Prop
  | _, _, [] => True
  | i, pre, e :: E => GoodAt P T call N loc ops bs s0 i pre e ∧ GoodL P T call N loc ops bs s0 (i + 1) (pre ++ [e]) E
theorem GoodL.get {P : Program} {T : Tabs} {call : CallA} {N loc : Nat} {ops : Array Oper} {bs : List Nat} {s0 : Sta} : ∀ {E pre : List Ent} {i k : Nat} {e : Ent}, GoodL P T call N loc ops bs s0 i pre E → E[k]? = some e → GoodAt P T call N loc ops bs s0 (i + k) (pre ++ E.take k) e
  | e0 :: E, pre, i, 0, e, h, hk => by
    simp at hk
    subst hk
    simpa using h.1
  | e0 :: E, pre, i, k + 1, e, h, hk => by
    have := GoodL.get h.2 (k := k) (e := e) (by simpa using hk)
    rw [show i + 1 + k = i + (k + 1) by omega] at this
    simpa using this
  | [], _, _, _, _, _, hk => by simp at hk


theorem frT_snoc (N : Nat) (pre : List Ent) (e : Ent) (fr : Fr) : frT N (pre ++ [e]) fr = putA N (frT N pre fr) e.o.dst e.x := by simp [frT, List.foldl_append]
theorem hpT_snoc (pre : List Ent) (e : Ent) (H : Hp) : hpT (pre ++ [e]) H = asgH (hpT pre H) e.asg e.res := by simp [hpT, List.foldl_append]

theorem tail_getD (bs : List Nat) (i : Nat) : bs.tail.getD i 0 = bs.getD (i + 1) 0 := by
  cases bs <;> simp [List.getD_eq_getElem?_getD]

/-- What a record's entry tells of an operation. -/
structure RecOk (r : Rec) (j : Nat) (e : Ent) : Prop where
  j : r.j = j
  asg : ∀ b, b ∈ e.asg → r.asg.testBit b = true
  ts : ∀ m, r.ts = some m → ∃ l, e.ts = some l ∧ ∀ b, b ∈ l → m.testBit b = true
/-- Of what kind an operation is tells what it has turned. -/
structure KindOk (e : Ent) : Prop where
  k1 : kindOf e.o ≤ 1 → e.asg = []
  k0 : kindOf e.o = 0 → dull e = true

/-- All that holds behind an operation. -/
structure StepOk (P : Program) (T : Tabs) (call : CallA) (N loc : Nat) (ops : Array Oper) (BS : List Nat) (s0 : Sta) (i : Nat) (pre : List Ent) (p : Plan) (recs : List Rec) (o : Oper) (s : Sta) (r : StepR) : Prop where
  o : r.e.o = o
  good : GoodAt P T call N loc ops BS s0 i pre r.e
  n0 : r.e.n0 = s.n
  n1 : r.e.n1 = r.s.n
  fr : r.s.fr = putA N s.fr r.e.o.dst r.e.x
  H : ∀ b, r.s.H.get b = (asgH s.H r.e.asg r.e.res).get b
  bnd : HB r.s.H r.s.n
  le : s.n ≤ r.s.n
  w0 : ∀ b, s.wr.testBit b = true → r.s.wr.testBit b = true
  w1 : ∀ b ∈ r.e.asg, b < r.e.n0 → r.s.wr.testBit b = true
  w2 : ∀ b, r.s.wr.testBit b = true → s.wr.testBit b = true ∨ (b ∈ r.e.asg ∧ b < r.e.n0)
  kind : KindOk r.e
  keep : p.keep = true → dull r.e = true ∨ ∃ q ∈ r.r, RecOk q i r.e
  old : ∀ q ∈ recs, q ∈ r.r
  wt : r.w = false → r.e.wt = none
#print axioms GoodL.get
end Go.Proofs.YthklnpkjlepagaaGreatDoor.Ab
