/- The machine of package norm, as a function: a store of parts, fuel, nesting, the first error. -/
import Derived.Test.YtjiecahopdaghabDoorPu
namespace Go.Proofs.YtjiecahopdaghabDoor
open Go.RowKit

/-- A value: a node whose kids are parts, by their numbers. -/
structure Val where
  op : Int
  n : Int
  parts : List Nat

/-- What a part waits for: a term (in its scope), or a Rec that is gone on with. -/
structure Run where
  isLoop : Bool
  t : Tr
  rec_ : Val

/-- A part. -/
structure Th where
  binders : Nat
  scope : List Nat
  run : Run
  got : Option Val

/-- A store: part 0 at the root, the others by the bits of their numbers. -/
structure Sto where
  x : Option Th
  kids : List Sto

def Sto.none_ : Sto := ⟨none, []⟩
def Sto.left (s : Sto) : Sto := match s.kids with
  | [] => Sto.none_
  | l :: _ => l
def Sto.right (s : Sto) : Sto := match s.kids with
  | [] => Sto.none_
  | _ :: [] => Sto.none_
  | _ :: r :: _ => r

/-- The part of a number (k bounds its bits). -/
def Sto.get : Nat → Sto → Nat → Option Th
  | 0, s, _ => s.x
  | k + 1, s, i => if i = 0 then s.x else if i % 2 = 1 then Sto.get k s.left (i / 2) else Sto.get k s.right (i / 2 - 1)
def Sto.set : Nat → Sto → Nat → Th → Sto
  | 0, s, _, t => ⟨some t, s.kids⟩
  | k + 1, s, i, t => if i = 0 then ⟨some t, s.kids⟩ else if i % 2 = 1 then ⟨s.x, [Sto.set k s.left (i / 2) t, s.right]⟩ else ⟨s.x, [s.left, Sto.set k s.right (i / 2 - 1) t]⟩

/-- All that changes. -/
structure St where
  sto : Sto
  size : Nat
  fuel : Int
  nested : Int
  err : Int

def St.get (s : St) (i : Nat) : Option Th := s.sto.get (i + 1) i
def St.put (s : St) (i : Nat) (t : Th) : St := { s with sto := s.sto.set (i + 1) i t }
def St.push (s : St) (t : Th) : Nat × St := (s.size, { s with sto := s.sto.set (s.size + 1) s.size t, size := s.size + 1 })

theorem Sto.get_set : ∀ (k k' : Nat) (s : Sto) (i j : Nat) (t : Th), i < k → j < k' → (s.set k i t).get k' j = if i = j then some t else s.get k' j
  | 0, _, _, _, _, _, h, _ => absurd h (Nat.not_lt_zero _)
  | _ + 1, 0, _, _, _, _, _, h => absurd h (Nat.not_lt_zero _)
  | k + 1, k' + 1, s, i, j, t, hi, hj => by
    by_cases h0 : i = 0
    · subst h0
      by_cases hj0 : j = 0
      · subst hj0
        simp [Sto.set, Sto.get]
      · rw [if_neg (fun e => hj0 e.symm)]
        simp only [Sto.set, if_true]
        simp only [Sto.get, if_neg hj0]
        rfl
    · by_cases hi1 : i % 2 = 1
      · simp only [Sto.set, if_neg h0, if_pos hi1]
        by_cases hj0 : j = 0
        · subst hj0
          simp only [Sto.get, if_true, if_neg h0]
        · by_cases hj1 : j % 2 = 1
          · have ih := Sto.get_set k k' s.left (i / 2) (j / 2) t (by omega) (by omega)
            simp only [Sto.get, if_neg hj0, if_pos hj1]
            refine Eq.trans (show _ = Sto.get k' (Sto.set k s.left (i / 2) t) (j / 2) from rfl) (ih.trans ?_)
            by_cases he : i = j
            · rw [if_pos he, if_pos (by rw [he])]
            · rw [if_neg he, if_neg (by omega)]
          · rw [if_neg (show ¬ i = j by omega)]
            simp only [Sto.get, if_neg hj0, if_neg hj1]
            rfl
      · simp only [Sto.set, if_neg h0, if_neg hi1]
        by_cases hj0 : j = 0
        · subst hj0
          simp only [Sto.get, if_true, if_neg h0]
        · by_cases hj1 : j % 2 = 1
          · rw [if_neg (show ¬ i = j by omega)]
            simp only [Sto.get, if_neg hj0, if_pos hj1]
            rfl
          · have ih := Sto.get_set k k' s.right (i / 2 - 1) (j / 2 - 1) t (by omega) (by omega)
            simp only [Sto.get, if_neg hj0, if_neg hj1]
            refine Eq.trans (show _ = Sto.get k' (Sto.set k s.right (i / 2 - 1) t) (j / 2 - 1) from rfl) (ih.trans ?_)
            by_cases he : i = j
            · rw [if_pos he, if_pos (by rw [he])]
            · rw [if_neg he, if_neg (by omega)]

theorem St.get_put (s : St) (i j : Nat) (t : Th) : (s.put i t).get j = if i = j then some t else s.get j := Sto.get_set _ _ _ _ _ _ (by omega) (by omega)
theorem St.get_push (s : St) (j : Nat) (t : Th) : (s.push t).2.get j = if s.size = j then some t else s.get j := Sto.get_set _ _ _ _ _ _ (by omega) (by omega)

def w64 (x : Int) : Int := IntKind.i64.wrap x

def St.fail (s : St) (e : Int) : St := if s.err = 0 then { s with err := e } else s
/-- spend. -/
def St.spend (s : St) (k : Int) : Bool × St :=
  let s1 : St := { s with fuel := w64 (s.fuel - k) }
  let s2 := if s1.fuel < 0 then s1.fail 17 else s1
  (decide (s2.err = 0), s2)
/-- enter. -/
def St.enter (s : St) : Bool × St :=
  let s1 := if s.nested = 65536 then s.fail 17 else s
  if s1.err = 0 then (true, { s1 with nested := w64 (s1.nested + 1) }) else (false, s1)

def noVal : Val := ⟨0, 0, []⟩
def noRun : Run := ⟨false, ⟨0, 0, []⟩, noVal⟩
/-- variable. -/
def St.var (s : St) (level : Int) : Nat × St := s.push ⟨0, [], noRun, some ⟨1, level, []⟩⟩
/-- row.at. -/
def St.at_ (s : St) (sc : List Nat) (n : Int) : Nat × St :=
  if n < 0 ∨ (sc.length : Int) ≤ n then s.var (w64 (w64 ((sc.length : Int) - 1) - n)) else (sc.getD (sc.length - 1 - n.toNat) 0, s)
/-- suspend. -/
def St.suspend (s : St) (t : Tr) (b : Nat) (sc : List Nat) : Nat × St :=
  if t.op = 1 ∧ b = 0 then s.at_ sc t.n else s.push ⟨b, sc, ⟨false, t, noVal⟩, none⟩
/-- The kids of a node, from the i-th one on. -/
def St.kids (op : Int) (sc : List Nat) : Nat → List Tr → St → List Nat × St
  | _, [], s => ([], s)
  | i, k :: ks, s =>
    let p := s.suspend k (bnd op (i : Nat)) sc
    let r := St.kids op sc (i + 1) ks p.2
    (p.1 :: r.1, r.2)
/-- node. -/
def St.node (s : St) (t : Tr) (sc : List Nat) : Val × St :=
  let a := s.spend (t.kids.length : Int)
  if a.1 then
    let r := a.2.kids t.op sc 0 t.kids
    (⟨t.op, t.n, r.1⟩, r.2)
  else (noVal, a.2)

def Val.is (v : Val) (op : Int) (k : Nat) : Bool := decide (v.op = op) && decide (v.parts.length = k)

/-- What is under way: 0: a part's value; 1: a term in a scope; 2: what is to be done at the top of a node. -/
structure Task where
  kind : Nat
  p : Nat
  t : Tr
  sc : List Nat
  v : Val

def tForce (p : Nat) : Task := ⟨0, p, ⟨0, 0, []⟩, [], noVal⟩
def tEval (t : Tr) (sc : List Nat) : Task := ⟨1, 0, t, sc, noVal⟩
def tSettle (v : Val) : Task := ⟨2, 0, ⟨0, 0, []⟩, [], v⟩

/-- A part's run, in a scope. -/
def Run.task (r : Run) (sc : List Nat) : Task := if r.isLoop then tSettle r.rec_ else tEval r.t sc

abbrev Go1 := Task → St → Option (Val × St)

/-- open. -/
def mOpen (go : Go1) (p : Nat) (args : List Nat) (s : St) : Option (Val × St) :=
  (s.get p).bind fun th => if th.got.isSome then none else
    let a := s.spend (w64 (w64 (1 + (th.scope.length : Int)) + (args.length : Int)))
    if a.1 then go (th.run.task (th.scope ++ args)) a.2 else some (noVal, a.2)

/-- take. -/
def mTake (go : Go1) (op : Int) (k part : Nat) (v : Val) (s : St) : Option (Val × St) :=
  (v.parts[0]?).bind fun p0 => (go (tForce p0) s).bind fun r =>
    if r.1.is op k then
      let a := r.2.spend 64
      if a.1 then (r.1.parts[part]?).bind fun q => go (tForce q) a.2 else some (v, a.2)
    else some (v, r.2)

/-- apply. -/
def mApply (go : Go1) (v : Val) (s : St) : Option (Val × St) :=
  (v.parts[0]?).bind fun p0 => (v.parts[1]?).bind fun p1 => (go (tForce p0) s).bind fun r =>
    if r.1.is 4 2 then
      let a := r.2.spend 64
      if a.1 then (r.1.parts[1]?).bind fun q => mOpen go q [p1] a.2 else some (v, a.2)
    else some (v, r.2)

/-- recur. -/
def mRecur (go : Go1) (v : Val) (s : St) : Option (Val × St) :=
  (v.parts[0]?).bind fun p0 => (v.parts[1]?).bind fun p1 => (v.parts[2]?).bind fun p2 => (v.parts[3]?).bind fun p3 => (go (tForce p3) s).bind fun r =>
    if r.1.is 11 0 then
      let a := r.2.spend 64
      if a.1 then go (tForce p1) a.2 else some (v, a.2)
    else if r.1.is 12 1 then
      let a := r.2.spend 64
      if a.1 then
        (r.1.parts[0]?).bind fun q =>
          let h := a.2.push ⟨0, [], ⟨true, ⟨0, 0, []⟩, ⟨v.op, v.n, [p0, p1, p2, q]⟩⟩, none⟩
          mOpen go p2 [q, h.1] h.2
      else some (v, a.2)
    else some (v, r.2)

/-- How many kids a node has at whose top something may be done (0: none). -/
def ruleKids (op : Int) : Nat := if op = 5 then 2 else if op = 13 then 4 else if op = 8 ∨ op = 9 ∨ op = 30 ∨ op = 19 then 1 else 0

def mRule (go : Go1) (v : Val) (s : St) : Option (Val × St) :=
  if v.op = 5 then mApply go v s
  else if v.op = 13 then mRecur go v s
  else if v.op = 8 then mTake go 7 3 1 v s
  else if v.op = 9 then mTake go 7 3 2 v s
  else if v.op = 30 then mTake go 19 1 0 v s
  else mTake go 30 1 0 v s

/-- settle. -/
def mSettle (go : Go1) (v : Val) (s : St) : Option (Val × St) :=
  if ruleKids v.op = 0 ∨ v.parts.length ≠ ruleKids v.op then some (v, s)
  else
    let a := s.enter
    if a.1 then (mRule go v a.2).map fun r => (r.1, { r.2 with nested := w64 (r.2.nested - 1) }) else some (v, a.2)

/-- value. -/
def mForce (go : Go1) (p : Nat) (s : St) : Option (Val × St) :=
  (s.get p).bind fun th => match th.got with
    | some v => some (v, s)
    | none => (go (th.run.task th.scope) s).bind fun r => (r.2.get p).map fun t5 => (r.1, r.2.put p ⟨t5.binders, [], noRun, some r.1⟩)

/-- eval. -/
def mEval (go : Go1) (t : Tr) (sc : List Nat) (s : St) : Option (Val × St) :=
  if t.op = 1 then (let r := s.at_ sc t.n; go (tForce r.1) r.2)
  else (let r := s.node t sc; mSettle go r.1 r.2)

def exec : Nat → Go1
  | 0 => fun _ _ => none
  | k + 1 => fun a s => if a.kind = 0 then mForce (exec k) a.p s else if a.kind = 1 then mEval (exec k) a.t a.sc s else mSettle (exec k) a.v s

/-- Variables in the place of binders. -/
def St.vars (outside : Int) : Nat → Nat → St → List Nat × St
  | 0, _, s => ([], s)
  | k + 1, i, s =>
    let p := s.var (w64 (outside + (i : Int)))
    let r := St.vars outside k (i + 1) p.2
    (p.1 :: r.1, r.2)

/-- look. -/
def mLook (go : Go1) (p : Nat) (outside : Int) (s : St) : Option (Val × St) :=
  (s.get p).bind fun th => if th.binders = 0 then go (tForce p) s
    else (let r := St.vars outside th.binders 0 s; mOpen go p r.1 r.2)

def noTm : Tr := ⟨0, 0, []⟩
/-- What is read: the term, the nodes so far, the state. -/
structure Red where
  t : Tr
  nodes : Int
  s : St

/-- The kids, as long as there is no error. -/
def mKids (rd : Nat → Int → Int → Int → St → Option Red) (under deep : Int) : List Nat → Int → St → Option (List Tr × Int × St)
  | [], nodes, s => some ([], nodes, s)
  | p :: ps, nodes, s => if s.err = 0 then (rd p under deep nodes s).bind fun r => (mKids rd under deep ps r.nodes r.s).map fun q => (r.t :: q.1, q.2)
      else some ([], nodes, s)

/-- read. -/
def mRead (g : Nat) : Nat → Nat → Int → Int → Int → St → Option Red
  | 0, _, _, _, _, _ => none
  | f + 1, p, outside, deep, nodes, s =>
    let nodes1 := w64 (nodes + 1)
    if 3000 < nodes1 ∨ 120 < deep then some ⟨noTm, nodes1, s.fail 5⟩
    else (s.get p).bind fun th => (mLook (exec g) p outside s).bind fun r =>
      let under := w64 (outside + (th.binders : Int))
      if r.1.op = 1 then some ⟨⟨1, w64 (w64 (under - 1) - r.1.n), []⟩, nodes1, r.2⟩
      else (mKids (mRead g f) under (w64 (deep + 1)) r.1.parts nodes1 r.2).map fun q => ⟨⟨r.1.op, r.1.n, q.1⟩, q.2.1, q.2.2⟩

def st0 : St := ⟨Sto.none_, 0, 16777216, 0, 0⟩

/-- Normal: an error, or a term. -/
def normM (g : Nat) (t : Tr) : Option (Tr × Int) :=
  let p := st0.suspend t 0 []
  (mRead g 122 p.1 0 1 0 p.2).map fun r => if r.s.err = 0 then (r.t, 0) else (noTm, r.s.err)
end Go.Proofs.YtjiecahopdaghabDoor
