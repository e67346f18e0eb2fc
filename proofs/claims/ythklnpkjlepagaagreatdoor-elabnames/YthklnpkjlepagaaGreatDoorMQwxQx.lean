/- Qw, Qx: the texts of these names, one behind the other. -/
import Derived.Test.YthklnpkjlepagaaGreatDoorQl
namespace Go.Proofs.YthklnpkjlepagaaGreatDoor.Ab
open Go.RowKit
variable {S : Nat → Value}

/-- What is loaded out of cells. -/
def loadCs (ti : TI) (cs : List AV) : Option AV := if ti.kind = 1 ∨ ti.kind = 2 then (if ti.size ≤ cs.length then some (AV.agg (cs.take ti.size)) else none) else cs.head?
theorem loadCs_pre {ti : TI} {cs ws : List AV} {y : AV} (h : cs.take ws.length = ws) (e : loadCs ti ws = some y) : loadCs ti cs = some y := by
  have hl : ws.length ≤ cs.length := by
    have := congrArg List.length h
    simp at this
    omega
  unfold loadCs at e ⊢
  split at e
  · rename_i hk
    rw [if_pos hk]
    split at e
    · rename_i hs
      cases e
      rw [if_pos (by omega)]
      congr 2
      conv => rhs; rw [← h]
      rw [List.take_take, Nat.min_eq_left hs]
    · cases e
  · rename_i hk
    rw [if_neg hk]
    cases ws with
    | nil => cases e
    | cons w ws =>
      cases cs with
      | nil => simp at hl
      | cons c cs =>
        simp at h e
        subst e
        simp [h.1]
/-- A load out of a block that another one writes to: the cells that it loads. -/
def watched (T : Tabs) (H : Hp) (fr : Fr) (o : Oper) : Option (Nat × Nat × List AV × AV) := match o.op with
  | .load t x => if (evO T fr x).t = 3 then (T.tiAt t).bind fun ti => (H.get (evO T fr x).a).bind fun B => (loadCs ti ((B.cs.drop (evO T fr x).b).take ti.size)).map fun y => ((evO T fr x).a, (evO T fr x).b, (B.cs.drop (evO T fr x).b).take ti.size, y) else none
  | _ => none


/-- What is kept of an operation for those behind it: its place, the blocks that it turned, that it looked at (none: any). -/
structure Rec where
  j : Nat
  asg : Nat
  ts : Option Nat
def badR (bi : Nat) (recs : List Rec) : List Rec := recs.filter fun r => !bi.testBit r.j
def orAsg (l : List Rec) : Nat := l.foldr (fun r m => r.asg ||| m) 0
theorem orAsg_bit : ∀ {l : List Rec} {r : Rec} {b : Nat}, r ∈ l → r.asg.testBit b = true → (orAsg l).testBit b = true
  | q :: l, r, b, h, hb => by
    simp only [orAsg, List.foldr_cons, Nat.testBit_or, Bool.or_eq_true]
    rcases List.mem_cons.1 h with rfl | h
    · exact Or.inl hb
    · exact Or.inr (orAsg_bit h hb)
def lateOk (ow : Nat) (bad : List Rec) : Bool := Nat.beq ow 0 || bad.all fun r => match r.ts with
  | some m => Nat.beq (ow &&& m) 0
  | none => false
theorem and_zero {a b k : Nat} (h : Nat.beq (a &&& b) 0 = true) (ha : a.testBit k = true) (hb : b.testBit k = true) : False := by
  have h := Nat.eq_of_beq_eq_true h
  have : (a &&& b).testBit k = true := by rw [Nat.testBit_and, ha, hb]; rfl
  rw [h] at this
  simp at this

/-- The blocks that an operation turned: old ones, new ones; as bits. -/
def asgL (n : Nat) (out : Out) : List Nat := bitsL (out.wr % 2 ^ n) ++ List.range' n (out.n - n)
def newM (n n' : Nat) : Nat := Nat.shiftLeft (2 ^ (n' - n) - 1) n
def asgM (n : Nat) (out : Out) : Nat := (out.wr % 2 ^ n) ||| newM n out.n
theorem mem_asgL {n b : Nat} {out : Out} : b ∈ asgL n out ↔ (out.wr.testBit b = true ∧ b < n) ∨ (n ≤ b ∧ b < out.n) := by
  unfold asgL
  rw [List.mem_append, mem_bitsL, Nat.testBit_mod_two_pow, List.mem_range'_1]
  simp only [Bool.and_eq_true, decide_eq_true_eq]
  constructor
  · rintro (h | h)
    · exact Or.inl ⟨h.2, h.1⟩
    · exact Or.inr (by omega)
  · rintro (h | h)
    · exact Or.inl ⟨h.2, h.1⟩
    · exact Or.inr (by omega)
theorem newM_bit {n n' b : Nat} (h1 : n ≤ b) (h2 : b < n') : (newM n n').testBit b = true := by
  show (((2 ^ (n' - n) - 1) <<< n).testBit b) = true
  rw [Nat.testBit_shiftLeft, Nat.testBit_two_pow_sub_one]
  simp
  omega
theorem asgM_bit {n b : Nat} {out : Out} (h : b ∈ asgL n out) : (asgM n out).testBit b = true := by
  unfold asgM
  rw [Nat.testBit_or, Nat.testBit_mod_two_pow]
  rcases mem_asgL.1 h with ⟨h1, h2⟩ | ⟨h1, h2⟩
  · simp [h1, h2]
  · simp [newM_bit h1 h2]

/-- Who waits for whom, whether an operation must look at others, whether others look at it. -/
structure Plan where
  bi : Nat
  chk : Bool
  keep : Bool
def needs (i j : Nat) : Bool := (Nat.beq i 1 && Nat.ble 2 j) || (Nat.beq i 3 && Nat.ble 1 j)
def chkAt (ops : Array Oper) (bs : List Nat) (i : Nat) : Bool := match ops[i]? with
  | some o => (List.range i).any fun j => match ops[j]? with
    | some p => needs (kindOf o) (kindOf p) && !(bs.getD i 0).testBit j
    | none => false
  | none => false
def anyChk (ops : Array Oper) (bs : List Nat) : Bool := (List.range ops.size).any (chkAt ops bs)
def planAt (ops : Array Oper) (bs : List Nat) (a : Bool) (i : Nat) : Plan := ⟨bs.getD i 0, chkAt ops bs i, a && (match ops[i]? with
  | some o => Nat.ble 1 (kindOf o)
  | none => false)⟩
def planOf (ops : Array Oper) (bs : List Nat) : List Plan := (List.range ops.size).map (planAt ops bs (anyChk ops bs))

theorem chk_no {ops : Array Oper} {bs : List Nat} {i j : Nat} {o p : Oper} (hi : ops[i]? = some o) (hj : ops[j]? = some p) (hlt : j < i) (h : chkAt ops bs i = false) (hn : needs (kindOf o) (kindOf p) = true) : (bs.getD i 0).testBit j = true := by
  unfold chkAt at h
  rw [hi] at h
  simp only at h
  have := List.any_eq_false.1 h j (List.mem_range.2 hlt)
  rw [hj] at this
  simpa [hn] using this
theorem chk_any {ops : Array Oper} {bs : List Nat} {i : Nat} (h : chkAt ops bs i = true) : anyChk ops bs = true := by
  unfold anyChk
  refine List.any_eq_true.2 ⟨i, List.mem_range.2 ?_, h⟩
  rcases Nat.lt_or_ge i ops.size with h1 | h1
  · exact h1
  · unfold chkAt at h
    rw [Array.getElem?_eq_none h1] at h
    cases h

structure StepR where
  e : Ent
  s : Sta
  r : List Rec
  w : Bool

/-- Behind an operation that was done: what it came to, on which blocks. -/
def finE (N loc i : Nat) (p : Plan) (o : Oper) (s : Sta) (recs : List Rec) (ts : Option Nat) (H' : Hp) (out : Out) : R StepR :=
  if !p.chk || lateOk (out.wr % 2 ^ s.n) (badR p.bi recs) then .ok ⟨⟨o, true, out.x, asgL s.n out, out.H, ts.map bitsL, s.n, out.n, none⟩, ⟨putA N s.fr o.dst out.x, H', out.n, (out.wr % 2 ^ s.n) ||| s.wr⟩, if p.keep then ⟨i, asgM s.n out, ts⟩ :: recs else recs, false⟩ else .error (loc + 400)

def stepE (P : Program) (T : Tabs) (call : CallA) (N loc : Nat) (ops : Array Oper) (i : Nat) (p : Plan) (o : Oper) (s : Sta) (recs : List Rec) : R StepR :=
  bindR (orErr loc (wantedA ops s.fr o)) fun b => if b then
    match calleeOf T s.fr o with
    | some _ => if Nat.beq (if p.chk then orAsg (badR p.bi recs) else 0) 0 then bindR (opA P T call loc s.H s.n s.fr o) fun out => finE N loc i p o s recs none out.H out
      else bindR (opA P T call loc (eraseH s.H (bitsL (orAsg (badR p.bi recs)))) s.n s.fr o) fun out => finE N loc i p o s recs none (asgH s.H (asgL s.n out) out.H) out
    | none => if p.chk && !Nat.beq (touchM T s.fr o &&& orAsg (badR p.bi recs)) 0 then bindR (orErr (loc + 300) (watched T s.H s.fr o)) fun q => .ok ⟨⟨o, true, q.2.2.2, [], s.H, some [], s.n, s.n, some (q.1, q.2.1, q.2.2.1)⟩, ⟨putA N s.fr o.dst q.2.2.2, s.H, s.n, s.wr⟩, recs, true⟩
      else bindR (opA P T call loc s.H s.n s.fr o) fun out => finE N loc i p o s recs (some (touchM T s.fr o)) out.H out
  else .ok ⟨⟨o, false, AV.ex undef, [], s.H, some [], s.n, s.n, none⟩, ⟨putA N s.fr o.dst (AV.ex undef), s.H, s.n, s.wr⟩, recs, false⟩

def drawGo (P : Program) (T : Tabs) (call : CallA) (N loc : Nat) (ops : Array Oper) : List Oper → List Plan → Nat → Sta → List Rec → R (List Ent × Sta × Bool)
  | [], _, _, s, _ => .ok ([], s, false)
  | o :: os, ps, i, s, recs => bindR (stepE P T call N (loc + i) ops i (ps.headD ⟨0, true, true⟩) o s recs) fun r =>
    bindR (drawGo P T call N loc ops os ps.tail (i + 1) r.s r.r) fun q => .ok (r.e :: q.1, q.2.1, r.w || q.2.2)

def dull (e : Ent) : Bool := e.asg.isEmpty && (match e.ts with
  | some l => l.isEmpty
  | none => false)

/-- The frame, the blocks behind some of them. -/
def frT (N : Nat) (E : List Ent) (fr : Fr) : Fr := E.foldl (fun fr e => putA N fr e.o.dst e.x) fr
def hpT (E : List Ent) (H : Hp) : Hp := E.foldl (fun H e => asgH H e.asg e.res) H

/-- What holds of an operation behind others. -/
structure GoodAt (P : Program) (T : Tabs) (call : CallA) (N loc : Nat) (ops : Array Oper) (bs : List Nat) (s0 : Sta) (i : Nat) (pre : List Ent) (e : Ent) : Prop where
  want : wantedA ops (frT N pre s0.fr) e.o = some e.b
  no : e.b = false → e.x = AV.ex undef ∧ e.asg = [] ∧ e.n1 = e.n0
  yes : e.b = true → e.wt = none → ∃ out V, opA P T call (loc + i) V e.n0 (frT N pre s0.fr) e.o = .ok out ∧ e.x = out.x ∧ (∀ b ∈ e.asg, e.res.get b = out.H.get b) ∧ e.n1 = out.n ∧ (∀ b, b ∈ e.asg ↔ (out.wr.testBit b = true ∧ b < e.n0) ∨ (e.n0 ≤ b ∧ b < e.n1)) ∧
    ∀ b B, V.get b = some B → (hpT pre s0.H).get b = some B ∧ (∀ l, e.ts = some l → b ∈ l) ∧ ∀ (j : Nat) (ej : Ent), pre[j]? = some ej → (bs.getD i 0).testBit j = false → b ∉ ej.asg
  wat : ∀ b o ws, e.wt = some (b, o, ws) → e.asg = [] ∧ e.n1 = e.n0 ∧ ∃ t x ti, e.o.op = .load t x ∧ (evO T (frT N pre s0.fr) x).t = 3 ∧ (evO T (frT N pre s0.fr) x).a = b ∧ (evO T (frT N pre s0.fr) x).b = o ∧ T.tiAt t = some ti ∧ loadCs ti ws = some e.x
  late : ∀ (j : Nat) (ej : Ent), pre[j]? = some ej → (bs.getD i 0).testBit j = false → ∀ b ∈ e.asg, b < e.n0 → dull ej = false → ∃ l, ej.ts = some l ∧ b ∉ l
  le : e.n0 ≤ e.n1
  start : s0.n ≤ e.n0
  chain : ∀ (j : Nat) (ej : Ent), pre[j]? = some ej → ej.n1 ≤ e.n0

def GoodL (P : Program) (T : Tabs) (call : CallA) (N loc : Nat) (ops : Array Oper) (bs : List Nat) (s0 : Sta) : Nat → List Ent → List Ent → Prop
  | _, _, [] => True
  | i, pre, e :: E => GoodAt P T call N loc ops bs s0 i pre e ∧ GoodL P T call N loc ops bs s0 (i + 1) (pre ++ [e]) E
theorem GoodL.get {P : Program} {T : Tabs} {call : CallA} {N loc : Nat} {ops : Array Oper} {bs : List Nat} {s0 : Sta} : ∀ {E pre : List Ent} {i k : Nat} {e : Ent}, GoodL P T call N loc ops bs s0 i pre E → E[k]? = some e → GoodAt P T call N loc ops bs s0 (i + k) (pre ++ E.take k) e
  | e0 :: E, pre, i, 0, e, h, hk => by
    simp at hk
    subst hk
    simpa using h.1
  | e0 :: E, pre, i, k + 1, e, h, hk => by
    have := GoodL.get h.2 (k := k) (e := e) (by simpa using hk)
    rw [show i + 1 + k = i + (k + 1) by omega] at this
    simpa using this
  | [], _, _, _, _, _, hk => by simp at hk


theorem frT_snoc (N : Nat) (pre : List Ent) (e : Ent) (fr : Fr) : frT N (pre ++ [e]) fr = putA N (frT N pre fr) e.o.dst e.x := by simp [frT, List.foldl_append]
theorem hpT_snoc (pre : List Ent) (e : Ent) (H : Hp) : hpT (pre ++ [e]) H = asgH (hpT pre H) e.asg e.res := by simp [hpT, List.foldl_append]

theorem tail_getD (bs : List Nat) (i : Nat) : bs.tail.getD i 0 = bs.getD (i + 1) 0 := by
  cases bs <;> simp [List.getD_eq_getElem?_getD]

/-- What a record's entry tells of an operation. -/
structure RecOk (r : Rec) (j : Nat) (e : Ent) : Prop where
  j : r.j = j
  asg : ∀ b, b ∈ e.asg → r.asg.testBit b = true
  ts : ∀ m, r.ts = some m → ∃ l, e.ts = some l ∧ ∀ b, b ∈ l → m.testBit b = true
/-- Of what kind an operation is tells what it has turned. -/
structure KindOk (e : Ent) : Prop where
  k1 : kindOf e.o ≤ 1 → e.asg = []
  k0 : kindOf e.o = 0 → dull e = true

/-- All that holds behind an operation. -/
structure StepOk (P : Program) (T : Tabs) (call : CallA) (N loc : Nat) (ops : Array Oper) (BS : List Nat) (s0 : Sta) (i : Nat) (pre : List Ent) (p : Plan) (recs : List Rec) (o : Oper) (s : Sta) (r : StepR) : Prop where
  o : r.e.o = o
  good : GoodAt P T call N loc ops BS s0 i pre r.e
  n0 : r.e.n0 = s.n
  n1 : r.e.n1 = r.s.n
  fr : r.s.fr = putA N s.fr r.e.o.dst r.e.x
  H : ∀ b, r.s.H.get b = (asgH s.H r.e.asg r.e.res).get b
  bnd : HB r.s.H r.s.n
  le : s.n ≤ r.s.n
  w0 : ∀ b, s.wr.testBit b = true → r.s.wr.testBit b = true
  w1 : ∀ b ∈ r.e.asg, b < r.e.n0 → r.s.wr.testBit b = true
  w2 : ∀ b, r.s.wr.testBit b = true → s.wr.testBit b = true ∨ (b ∈ r.e.asg ∧ b < r.e.n0)
  kind : KindOk r.e
  keep : p.keep = true → dull r.e = true ∨ ∃ q ∈ r.r, RecOk q i r.e
  old : ∀ q ∈ recs, q ∈ r.r
  wt : r.w = false → r.e.wt = none
end Go.Proofs.YthklnpkjlepagaaGreatDoor.Ab
namespace Go.Proofs.YthklnpkjlepagaaGreatDoor.Ab
open Go.RowKit
variable {S : Nat → Value}

theorem kind_le (o : Oper) : kindOf o ≤ 3 := by
  unfold kindOf
  split <;> try decide
  split <;> decide
theorem touch_kind {T : Tabs} {fr : Fr} {o : Oper} (h : kindOf o = 0 ∨ kindOf o = 2) : touchM T fr o = 0 := by
  unfold kindOf at h
  unfold touchM
  cases ho : o.op <;> simp only [ho] at h ⊢ <;> first
    | (exfalso; revert h; decide)
    | skip
  rename_i c
  cases hc : c.callee with
  | value f => simp [hc] at h
  | invoke r m => simp [hc] at h
  | builtin b => cases b <;> simp [hc] at h ⊢
theorem bitsL_zero : bitsL 0 = [] := rfl
theorem asgL_nil {n : Nat} {out : Out} (h1 : out.wr = 0) (h2 : out.n = n) : asgL n out = [] := by
  unfold asgL
  rw [h1, h2, Nat.zero_mod, bitsL_zero, Nat.sub_self]
  rfl

/-- Behind an operation that ran on all that is there, only what it turned is other. -/
theorem same_out {H : Hp} {n : Nat} {out : Out} (ht : Tidy H n out) (hB : HB H n) (b : Nat) : out.H.get b = (asgH H (asgL n out) out.H).get b := by
  rw [asgH_get]
  by_cases h : b ∈ asgL n out
  · rw [if_pos h]
  · rw [if_neg h]
    have h := fun h9 => h (mem_asgL.2 h9)
    by_cases hlt : b < n
    · refine ht.keep hB b hlt ?_
      cases hw : out.wr.testBit b with
      | false => rfl
      | true => exact absurd (Or.inl ⟨hw, hlt⟩) h
    · have h1 : H.get b = none := by
        cases hg : H.get b with
        | none => rfl
        | some B => exact absurd (hB b B hg) hlt
      have h2 : out.H.get b = none := by
        cases hg : out.H.get b with
        | none => rfl
        | some B =>
          have := ht.bnd hB b B hg
          exact absurd (Or.inr ⟨by omega, this⟩) h
      rw [h1, h2]

theorem bnd_asg {H : Hp} {n : Nat} {out : Out} (hB : HB H n) (hle : n ≤ out.n) : HB (asgH H (asgL n out) out.H) out.n := by
  intro b B hb
  rw [asgH_get] at hb
  split at hb
  · rename_i h
    rcases mem_asgL.1 h with h | h <;> omega
  · have := hB b B hb
    omega

section
variable {P : Program} {T : Tabs} {call : CallA} {N loc i : Nat} {ops : Array Oper} {BS : List Nat} {s0 s : Sta} {pre : List Ent} {p : Plan} {recs : List Rec} {o : Oper}

/-- Who was not waited for has an entry among those that are looked at. -/
theorem bad_rec (hbi : p.bi = BS.getD i 0) (hrec : ∀ (j : Nat) (ej : Ent), pre[j]? = some ej → dull ej = true ∨ ∃ q ∈ recs, RecOk q j ej) {j : Nat} {ej : Ent} (hj : pre[j]? = some ej) (hu : (BS.getD i 0).testBit j = false) (hd : dull ej = false) : ∃ q ∈ badR p.bi recs, RecOk q j ej := by
  rcases hrec j ej hj with h | ⟨q, h1, h2⟩
  · rw [h] at hd; cases hd
  · refine ⟨q, List.mem_filter.2 ⟨h1, ?_⟩, h2⟩
    rw [h2.j, hbi]
    simp only [hu]
    rfl
theorem dull_asg {e : Ent} {b : Nat} (h : b ∈ e.asg) : dull e = false := by
  unfold dull
  cases hA : e.asg with
  | nil => rw [hA] at h; cases h
  | cons x xs => simp

theorem finE_ok {ts : Option Nat} {H' V : Hp} {out outV : Out} {r : StepR} (hbi : p.bi = BS.getD i 0) (hrec : p.chk = true → ∀ (j : Nat) (ej : Ent), pre[j]? = some ej → dull ej = true ∨ ∃ q ∈ recs, RecOk q j ej)
    (hfr : s.fr = frT N pre s0.fr) (hH : ∀ b, s.H.get b = (hpT pre s0.H).get b) (hs0 : s0.n ≤ s.n) (hn : ∀ (j : Nat) (ej : Ent), pre[j]? = some ej → ej.n1 ≤ s.n) (hw : wantedA ops s.fr o = some true)
    (h : finE N (loc + i) i p o s recs ts H' out = .ok r)
    (hop : opA P T call (loc + i) V s.n s.fr o = .ok outV) (hx : outV.x = out.x) (hon : outV.n = out.n) (how : outV.wr = out.wr) (hres : ∀ b ∈ asgL s.n out, out.H.get b = outV.H.get b)
    (hV : ∀ b B, V.get b = some B → s.H.get b = some B ∧ (∀ m, ts = some m → m.testBit b = true) ∧ ∀ (j : Nat) (ej : Ent), pre[j]? = some ej → (BS.getD i 0).testBit j = false → b ∉ ej.asg)
    (hl0 : p.chk = false → (∃ b, out.wr.testBit b = true) → ∀ (j : Nat) (ej : Ent), pre[j]? = some ej → (BS.getD i 0).testBit j = false → dull ej = true)
    (hH' : ∀ b, H'.get b = (asgH s.H (asgL s.n out) out.H).get b) (hB' : HB H' out.n) (hle : s.n ≤ out.n)
    (hk1 : kindOf o ≤ 1 → out.wr = 0 ∧ out.n = s.n) (hk0 : kindOf o = 0 → ts = some 0) : StepOk P T call N loc ops BS s0 i pre p recs o s r := by
  unfold finE at h
  split at h
  case isFalse => cases h
  rename_i hlate
  simp only [Except.ok.injEq] at h
  subst h
  have hnil : kindOf o ≤ 1 → asgL s.n out = [] := fun hk => asgL_nil (hk1 hk).1 (hk1 hk).2
  have hdull : kindOf o = 0 → dull (⟨o, true, out.x, asgL s.n out, out.H, ts.map bitsL, s.n, out.n, none⟩ : Ent) = true := fun hk => by
    unfold dull
    simp only
    rw [hnil (by omega), hk0 hk]
    simp [bitsL_zero]
  refine ⟨rfl, ⟨by rw [← hfr]; exact hw, fun e => (by cases e), fun _ _ => ⟨outV, V, by rw [← hfr]; exact hop, hx.symm, hres, hon.symm, fun b => ?_, fun b B hb => ?_⟩, fun _ _ _ e => (by cases e), fun j ej hj hu b hb hlt hd => ?_, hle, hs0, fun j ej hj => hn j ej hj⟩, rfl, rfl, rfl, hH', hB', hle, fun b hb => ?_, fun b hb hlt => ?_, fun b hb => ?_, ⟨hnil, hdull⟩, fun hk => ?_, fun q hq => ?_, fun _ => rfl⟩
  · show b ∈ asgL s.n out ↔ _
    rw [mem_asgL, how]
  · obtain ⟨h1, h2, h3⟩ := hV b B hb
    refine ⟨by rw [← hH]; exact h1, fun l hl => ?_, h3⟩
    obtain ⟨m, h4, rfl⟩ := Option.map_eq_some_iff.1 hl
    exact mem_bitsL.2 (h2 m h4)
  · have hwb : out.wr.testBit b = true := by
      rcases mem_asgL.1 hb with h9 | h9
      · exact h9.1
      · have hlt : b < s.n := hlt
        omega
    cases hc : p.chk with
    | false =>
      have := hl0 hc ⟨b, hwb⟩ j ej hj hu
      rw [this] at hd
      cases hd
    | true =>
      rw [hc] at hlate
      simp only [Bool.not_true, Bool.false_or] at hlate
      obtain ⟨q, hq, hr⟩ := bad_rec hbi (hrec hc) hj hu hd
      have hlt : b < s.n := hlt
      have hob : (out.wr % 2 ^ s.n).testBit b = true := by
        rw [Nat.testBit_mod_two_pow, hwb]
        simp [hlt]
      unfold lateOk at hlate
      rcases Bool.or_eq_true_iff.1 hlate with h9 | h9
      · rw [Nat.eq_of_beq_eq_true h9] at hob
        simp at hob
      · have h8 := List.all_eq_true.1 h9 q hq
        cases hts : q.ts with
        | none => simp [hts] at h8
        | some m =>
          simp only [hts] at h8
          obtain ⟨l, h6, h7⟩ := hr.ts m hts
          exact ⟨l, h6, fun hbl => and_zero h8 hob (h7 b hbl)⟩
  · show ((out.wr % 2 ^ s.n) ||| s.wr).testBit b = true
    rw [Nat.testBit_or, hb, Bool.or_true]
  · show ((out.wr % 2 ^ s.n) ||| s.wr).testBit b = true
    have hlt : b < s.n := hlt
    rcases mem_asgL.1 hb with h9 | h9
    · rw [Nat.testBit_or, Nat.testBit_mod_two_pow, h9.1]
      simp [hlt]
    · omega
  · have hb : ((out.wr % 2 ^ s.n) ||| s.wr).testBit b = true := hb
    rw [Nat.testBit_or, Nat.testBit_mod_two_pow] at hb
    simp only [Bool.or_eq_true, Bool.and_eq_true, decide_eq_true_eq] at hb
    rcases hb with h9 | h9
    · exact Or.inr ⟨mem_asgL.2 (Or.inl ⟨h9.2, h9.1⟩), h9.1⟩
    · exact Or.inl h9
  · refine Or.inr ⟨⟨i, asgM s.n out, ts⟩, by simp [hk], rfl, fun b hb => asgM_bit hb, fun m hm => ⟨bitsL m, ?_, fun b hb => mem_bitsL.1 hb⟩⟩
    have hm : ts = some m := hm
    rw [hm]
    rfl
  · show q ∈ (if p.keep then _ else _)
    split
    · exact List.mem_cons_of_mem _ hq
    · exact hq

variable (hT : TabOk P T) (hz : zeroB T = true) (hNum : noNum P = true) (hcall : CallOk P T S call) (hbody : ∀ g args H n out, call g args H n = .ok out → hasBody P g = true)
include hT hz hNum hcall hbody in
theorem stepE_ok {r : StepR} (h : stepE P T call N (loc + i) ops i p o s recs = .ok r) (hi : ops[i]? = some o) (hbi : p.bi = BS.getD i 0) (hchk : p.chk = chkAt ops BS i) (hpre : ∀ (j : Nat) (ej : Ent), pre[j]? = some ej → ops[j]? = some ej.o ∧ j < i) (hkind : ∀ (j : Nat) (ej : Ent), pre[j]? = some ej → KindOk ej)
    (hrec : anyChk ops BS = true → ∀ (j : Nat) (ej : Ent), pre[j]? = some ej → dull ej = true ∨ ∃ q ∈ recs, RecOk q j ej)
    (hfr : s.fr = frT N pre s0.fr) (hH : ∀ b, s.H.get b = (hpT pre s0.H).get b) (hB : HB s.H s.n) (hs0 : s0.n ≤ s.n) (hn : ∀ (j : Nat) (ej : Ent), pre[j]? = some ej → ej.n1 ≤ s.n) : StepOk P T call N loc ops BS s0 i pre p recs o s r := by
  have hrec' : p.chk = true → ∀ (j : Nat) (ej : Ent), pre[j]? = some ej → dull ej = true ∨ ∃ q ∈ recs, RecOk q j ej := fun hc => hrec (chk_any (by rw [← hchk]; exact hc))
  have hno : p.chk = false → ∀ (j : Nat) (ej : Ent), pre[j]? = some ej → (BS.getD i 0).testBit j = false → needs (kindOf o) (kindOf ej.o) = false := fun hc j ej hj hu => by
    cases hne : needs (kindOf o) (kindOf ej.o) with
    | false => rfl
    | true =>
      obtain ⟨h1, h2⟩ := hpre j ej hj
      rw [chk_no hi h1 h2 (by rw [← hchk]; exact hc) hne] at hu
      cases hu
  have hdul : ∀ {e : Ent}, e.asg = [] → e.ts = some [] → dull e = true := fun h1 h2 => by
    unfold dull
    rw [h1, h2]
    rfl
  unfold stepE at h
  obtain ⟨b, w1, h⟩ := bindR_ok h
  have w1 := orErr_ok w1
  cases b with
  | false =>
    simp only [Bool.false_eq_true, if_false, Except.ok.injEq] at h
    subst h
    exact ⟨rfl, ⟨by rw [← hfr]; exact w1, fun _ => ⟨rfl, rfl, rfl⟩, fun e => (by cases e), fun _ _ _ e => (by cases e), fun _ _ _ _ b hb => (by cases hb), Nat.le_refl _, hs0, fun j ej hj => hn j ej hj⟩, rfl, rfl, rfl, fun _ => rfl, hB, Nat.le_refl _, fun _ h => h, fun _ h => (by cases h), fun _ h => Or.inl h, ⟨fun _ => rfl, fun _ => hdul rfl rfl⟩, fun _ => Or.inl (hdul rfl rfl), fun _ h => h, fun _ => rfl⟩
  | true =>
    simp only [if_true] at h
    cases hcl : calleeOf T s.fr o with
    | some x =>
      simp only [hcl] at h
      have hk3 : kindOf o = 3 := by
        have := kind_le o
        rcases Nat.lt_or_ge 2 (kindOf o) with h9 | h9
        · omega
        · rw [callee_kind h9] at hcl; cases hcl
      have hdl : p.chk = false → ∀ (j : Nat) (ej : Ent), pre[j]? = some ej → (BS.getD i 0).testBit j = false → dull ej = true := fun hc j ej hj hu => by
        have := hno hc j ej hj hu
        rw [hk3] at this
        refine (hkind j ej hj).k0 ?_
        unfold needs at this
        have h9 : Nat.ble 1 (kindOf ej.o) = false := by simpa using this
        have := Nat.le_of_ble_eq_true (n := 1) (m := kindOf ej.o)
        rcases Nat.eq_zero_or_pos (kindOf ej.o) with h0 | h0
        · exact h0
        · rw [Nat.ble_eq_true_of_le h0] at h9; cases h9
      by_cases hba : Nat.beq (if p.chk then orAsg (badR p.bi recs) else 0) 0 = true
      · rw [if_pos hba] at h
        obtain ⟨out, w2, h⟩ := bindR_ok h
        have ht := (opA_ok (N := N) hT hz hNum hcall hbody w2).1
        refine finE_ok hbi hrec' hfr hH hs0 hn w1 h w2 rfl rfl rfl (fun _ _ => rfl) (fun b B hb => ⟨hb, fun m hm => (by cases hm), fun j ej hj hu hba2 => ?_⟩) (fun hc _ j ej hj hu => hdl hc j ej hj hu) (same_out ht hB) (ht.bnd hB) ht.le (fun hk => absurd hk (by omega)) (fun hk => absurd hk (by omega))
        have hd := dull_asg hba2
        cases hc : p.chk with
        | false => rw [hdl hc j ej hj hu] at hd; cases hd
        | true =>
          rw [hc] at hba
          obtain ⟨q, hq, hr⟩ := bad_rec hbi (hrec' hc) hj hu hd
          have h9 := orAsg_bit hq (hr.asg b hba2)
          rw [if_pos rfl] at hba
          rw [Nat.eq_of_beq_eq_true hba] at h9
          simp at h9
      · rw [if_neg hba] at h
        obtain ⟨out, w2, h⟩ := bindR_ok h
        have hc : p.chk = true := by
          cases hc : p.chk with
          | true => rfl
          | false => rw [hc] at hba; exact (hba rfl).elim
        have hVB : HB (eraseH s.H (bitsL (orAsg (badR p.bi recs)))) s.n := fun b B hb => by
          rw [eraseH_get] at hb
          split at hb
          · cases hb
          · exact hB b B hb
        have ht := (opA_ok (N := N) hT hz hNum hcall hbody w2).1
        refine finE_ok hbi hrec' hfr hH hs0 hn w1 h w2 rfl rfl rfl (fun _ _ => rfl) (fun b B hb => ?_) (fun hc' => by rw [hc] at hc'; cases hc') (fun _ => rfl) (bnd_asg hB ht.le) ht.le (fun hk => absurd hk (by omega)) (fun hk => absurd hk (by omega))
        rw [eraseH_get] at hb
        split at hb
        · cases hb
        · rename_i hnb
          refine ⟨hb, fun m hm => (by cases hm), fun j ej hj hu hba2 => ?_⟩
          obtain ⟨q, hq, hr⟩ := bad_rec hbi (hrec' hc) hj hu (dull_asg hba2)
          exact hnb (mem_bitsL.2 (orAsg_bit hq (hr.asg b hba2)))
    | none =>
      simp only [hcl] at h
      split at h
      · rename_i hcf
        obtain ⟨q, w2, h⟩ := bindR_ok h
        have w2 := orErr_ok w2
        simp only [Except.ok.injEq] at h
        subst h
        refine ⟨rfl, ⟨by rw [← hfr]; exact w1, fun e => (by cases e), fun _ e => (by cases e), fun b o' ws e => ?_, fun _ _ _ _ b hb => (by cases hb), Nat.le_refl _, hs0, fun j ej hj => hn j ej hj⟩, rfl, rfl, rfl, fun _ => rfl, hB, Nat.le_refl _, fun _ h => h, fun _ h => (by cases h), fun _ h => Or.inl h, ⟨fun _ => rfl, fun _ => hdul rfl rfl⟩, fun _ => Or.inl (hdul rfl rfl), fun _ h => h, fun e => (by cases e)⟩
        simp only [Option.some.injEq, Prod.mk.injEq] at e
        obtain ⟨rfl, rfl, rfl⟩ := e
        unfold watched at w2
        split at w2
        · rename_i t x ho
          split at w2
          · rename_i ht
            obtain ⟨ti, k1, w2⟩ := Option.bind_eq_some_iff.1 w2
            obtain ⟨B, k2, w2⟩ := Option.bind_eq_some_iff.1 w2
            obtain ⟨y, k3, rfl⟩ := Option.map_eq_some_iff.1 w2
            exact ⟨rfl, rfl, t, x, ti, ho, by rw [← hfr]; exact ht, by rw [← hfr], by rw [← hfr], k1, k3⟩
          · cases w2
        · cases w2
      · rename_i hcf
        obtain ⟨out, w2, h⟩ := bindR_ok h
        have ht := (opA_ok (N := N) hT hz hNum hcall hbody w2).1
        have hs : sop P T s.H s.n s.fr o = some out := by
          unfold opA at w2
          rw [hcl] at w2
          exact orErr_ok w2
        obtain ⟨outV, k1, k2, k3, k4, k5⟩ := sop_local (H' := restrH s.H (bitsL (touchM T s.fr o))) (fun b hb => by rw [restrH_get, if_pos (mem_bitsL.2 hb)]) hs
        refine finE_ok hbi hrec' hfr hH hs0 hn w1 h (V := restrH s.H (bitsL (touchM T s.fr o))) (outV := outV) (by unfold opA; rw [hcl]; simp only [k1, orErr]) k2 k3 k4 (fun b hb => (k5 b ?_).symm) (fun b B hb => ?_) (fun hc ⟨b, hb⟩ j ej hj hu => ?_) (same_out ht hB) (ht.bnd hB) ht.le (fun hk => ⟨(sop_kind (by omega) hs).1, (sop_kind (by omega) hs).2 hk⟩) (fun hk => by rw [touch_kind (Or.inl hk)])
        · rcases mem_asgL.1 hb with h9 | h9
          · exact Or.inl h9.1
          · exact Or.inr h9
        · rw [restrH_get] at hb
          split at hb
          · rename_i htb
            have htb := mem_bitsL.1 htb
            refine ⟨hb, fun m hm => by cases hm; exact htb, fun j ej hj hu hba => ?_⟩
            cases hc : p.chk with
            | true =>
              obtain ⟨q, hq, hr⟩ := bad_rec hbi (hrec' hc) hj hu (dull_asg hba)
              rw [hc] at hcf
              simp only [Bool.true_and, Bool.not_eq_true', Bool.not_eq_false] at hcf
              exact and_zero hcf htb (orAsg_bit hq (hr.asg b hba))
            | false =>
              have h9 := hno hc j ej hj hu
              have hk2 : 2 ≤ kindOf ej.o := by
                rcases Nat.lt_or_ge 1 (kindOf ej.o) with h8 | h8
                · exact h8
                · rw [(hkind j ej hj).k1 h8] at hba; cases hba
              have hk := kind_le o
              have hko : kindOf o = 1 ∨ kindOf o = 3 := by
                by_cases hz : kindOf o = 0 ∨ kindOf o = 2
                · rw [touch_kind hz] at htb; simp at htb
                · omega
              unfold needs at h9
              rcases hko with h7 | h7 <;> rw [h7] at h9 <;> simp [Nat.ble_eq_true_of_le hk2, Nat.ble_eq_true_of_le (show 1 ≤ kindOf ej.o by omega)] at h9
          · cases hb
        · have h9 := hno hc j ej hj hu
          have hk := kind_le o
          have hk3 : kindOf o = 3 := by
            rcases Nat.lt_or_ge 2 (kindOf o) with h8 | h8
            · omega
            · rw [(sop_kind h8 hs).1] at hb; simp at hb
          refine (hkind j ej hj).k0 ?_
          rcases Nat.eq_zero_or_pos (kindOf ej.o) with h0 | h0
          · exact h0
          · unfold needs at h9
            rw [hk3] at h9
            simp [Nat.ble_eq_true_of_le h0] at h9
end
end Go.Proofs.YthklnpkjlepagaaGreatDoor.Ab
