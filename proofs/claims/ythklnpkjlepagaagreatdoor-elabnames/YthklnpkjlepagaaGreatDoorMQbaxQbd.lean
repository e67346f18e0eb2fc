/- Qba, Qbd: the texts of these names, one behind the other. -/
import Derived.Test.YthklnpkjlepagaaGreatDoorMQoxQp
import Derived.Test.YthklnpkjlepagaaGreatDoorQz
namespace Go.Proofs.YthklnpkjlepagaaGreatDoor.Ab
open Go.RowKit
variable {S : Nat → Value}

/-- A number, as a number. -/
def natL {α : Type} (i : Nat) (k : Nat → α) : α := Nat.casesOn i (k 0) fun m => k (Nat.succ m)
theorem natL_eq {α : Type} (i : Nat) (k : Nat → α) : natL i k = k i := by cases i <;> rfl
def bindX {α β : Type} (x : R α) (f : α → R β) : R β := Except.casesOn x (fun e => .error e) f
theorem bindX_eq {α β : Type} (x : R α) (f : α → R β) : bindX x f = bindR x f := by cases x <;> rfl
def ifB {α : Type} (b : Bool) (x y : α) : α := Bool.casesOn b y x
theorem ifB_eq {α : Type} (b : Bool) (x y : α) : ifB b x y = if b then x else y := by cases b <;> rfl
/-- A value, or none. -/
def okV (loc : Nat) (H : Hp) (n : Nat) (x : Option AV) : R Out := Option.casesOn x (.error loc) fun y => .ok ⟨y, H, n, 0⟩
theorem okV_eq (loc : Nat) (H : Hp) (n : Nat) (x : Option AV) : okV loc H n x = orErr loc (x.map fun y => ⟨y, H, n, 0⟩) := by cases x <;> rfl

/-- An operand. -/
def evC (T : Tabs) : Operand → EvC
  | .tmp t => rdE t
  | .const v => ⟨fun _ => ofV v⟩
  | .global g => ⟨fun _ => globAt T.glob g⟩
  | .func f => ⟨fun _ => AV.ex (.func (.func f) #[] #[])⟩
theorem evC_eq (T : Tabs) (fr : Fr) (x : Operand) : (evC T x).g fr = evO T fr x := by
  cases x with
  | tmp t => exact rdE_eq t fr
  | _ => rfl
/-- Several. -/
structure EvsC where
  g : Fr → List AV
def evsC (T : Tabs) : List Operand → EvsC
  | [] => ⟨fun _ => []⟩
  | x :: xs => ⟨fun fr => (evC T x).g fr :: (evsC T xs).g fr⟩
theorem evsC_eq (T : Tabs) (fr : Fr) : ∀ (xs : List Operand), (evsC T xs).g fr = xs.map (evO T fr)
  | [] => rfl
  | x :: xs => by
    show (evC T x).g fr :: (evsC T xs).g fr = _
    rw [evC_eq, evsC_eq T fr xs]
    rfl
structure EpsC where
  g : Fr → List (Nat × AV)
def epsC (T : Tabs) : List (Nat × Operand) → EpsC
  | [] => ⟨fun _ => []⟩
  | p :: ps => ⟨fun fr => (p.1, (evC T p.2).g fr) :: (epsC T ps).g fr⟩
theorem epsC_eq (T : Tabs) (fr : Fr) : ∀ (ps : List (Nat × Operand)), (epsC T ps).g fr = ps.map fun p => (p.1, evO T fr p.2)
  | [] => rfl
  | p :: ps => by
    show (p.1, (evC T p.2).g fr) :: (epsC T ps).g fr = _
    rw [evC_eq, epsC_eq T fr ps]
    rfl
structure EoC where
  g : Fr → Option AV
def eoC (T : Tabs) : Option Operand → EoC
  | none => ⟨fun _ => none⟩
  | some x => ⟨fun fr => some ((evC T x).g fr)⟩
theorem eoC_eq (T : Tabs) (fr : Fr) (x : Option Operand) : (eoC T x).g fr = x.map (evO T fr) := by
  cases x with
  | none => rfl
  | some x => show some ((evC T x).g fr) = _; rw [evC_eq]; rfl

end Go.Proofs.YthklnpkjlepagaaGreatDoor.Ab
namespace Go.Proofs.YthklnpkjlepagaaGreatDoor.Ab
open Go.RowKit
variable {S : Nat → Value}

theorem beq_dec (a b : Nat) : Nat.beq a b = decide (a = b) := by
  cases h : Nat.beq a b with
  | true => rw [Nat.eq_of_beq_eq_true h]; simp
  | false => rw [decide_eq_false (Nat.ne_of_beq_eq_false h)]
theorem ifE {α : Type} (a b : Nat) (x y : α) : ifB (Nat.beq a b) x y = if a = b then x else y := by
  rw [ifB_eq, beq_dec]
  by_cases h : a = b <;> simp [h]
theorem ifL {α : Type} (a b : Nat) (x y : α) : ifB (Nat.ble a b) x y = if a ≤ b then x else y := by
  rw [ifB_eq]
  by_cases h : a ≤ b
  · rw [Nat.ble_eq_true_of_le h, if_pos rfl, if_pos h]
  · have : Nat.ble a b = false := by
      cases h9 : Nat.ble a b with
      | false => rfl
      | true => exact absurd (Nat.le_of_ble_eq_true h9) h
    rw [this, if_neg h]
    rfl
def opt {α β : Type} (x : Option α) (f : α → Option β) : Option β := Option.casesOn x none f
theorem opt_eq {α β : Type} (x : Option α) (f : α → Option β) : opt x f = x.bind f := by cases x <;> rfl

def optD {α β : Type} (x : Option α) (d : β) (f : α → β) : β := Option.casesOn x d f
theorem optD_none {α β : Type} (d : β) (f : α → β) : optD none d f = d := rfl
theorem optD_some {α β : Type} (a : α) (d : β) (f : α → β) : optD (some a) d f = f a := rfl
/-- So many less, so many. -/
structure LsC where
  f : List AV → List AV
structure LoC where
  f : List AV → Option (List AV)
structure LaC where
  f : List AV → Option AV
def dropC : Nat → LsC
  | 0 => ⟨fun l => l⟩
  | n + 1 => ⟨fun l => List.casesOn l [] fun _ l' => (dropC n).f l'⟩
theorem dropC_eq : ∀ (n : Nat) (l : List AV), (dropC n).f l = l.drop n
  | 0, _ => rfl
  | _ + 1, [] => rfl
  | n + 1, _ :: l => dropC_eq n l
def takeC : Nat → LsC
  | 0 => ⟨fun _ => []⟩
  | n + 1 => ⟨fun l => List.casesOn l [] fun a l' => a :: (takeC n).f l'⟩
theorem takeC_eq : ∀ (n : Nat) (l : List AV), (takeC n).f l = l.take n
  | 0, _ => rfl
  | _ + 1, [] => rfl
  | n + 1, a :: l => by show a :: (takeC n).f l = _; rw [takeC_eq n l]; rfl
def holdC : Nat → LoC
  | 0 => ⟨fun _ => some []⟩
  | n + 1 => ⟨fun l => List.casesOn l none fun a l' => opt ((holdC n).f l') fun r => some (a :: r)⟩
theorem holdC_eq : ∀ (n : Nat) (l : List AV), (holdC n).f l = if n ≤ l.length then some (l.take n) else none
  | 0, _ => by simp [holdC]
  | n + 1, [] => by simp [holdC]
  | n + 1, a :: l => by
    show opt ((holdC n).f l) (fun r => some (a :: r)) = _
    rw [holdC_eq n l, opt_eq]
    by_cases h : n ≤ l.length
    · rw [if_pos h, if_pos (by simp; exact h)]; rfl
    · rw [if_neg h, if_neg (by simp; omega)]; rfl
def nthC : Nat → LaC
  | 0 => ⟨fun l => List.casesOn l none fun a _ => some a⟩
  | n + 1 => ⟨fun l => List.casesOn l none fun _ l' => (nthC n).f l'⟩
theorem nthC_eq : ∀ (n : Nat) (l : List AV), (nthC n).f l = l[n]?
  | 0, [] => rfl
  | 0, _ :: _ => rfl
  | _ + 1, [] => rfl
  | n + 1, _ :: l => by rw [List.getElem?_cons_succ, ← nthC_eq n l]; rfl
def dropF (n : Nat) (l : List AV) : List AV := natL n fun n => (dropC n).f l
theorem dropF_eq (n : Nat) (l : List AV) : dropF n l = l.drop n := by unfold dropF; rw [natL_eq, dropC_eq]
def takeF (n : Nat) (l : List AV) : List AV := natL n fun n => (takeC n).f l
theorem takeF_eq (n : Nat) (l : List AV) : takeF n l = l.take n := by unfold takeF; rw [natL_eq, takeC_eq]
/-- Are there so many? -/
def long (n : Nat) (l : List AV) : Bool := natL n fun n => Nat.casesOn n true fun m => List.casesOn ((dropC m).f l) false fun _ _ => true
theorem long_eq (n : Nat) (l : List AV) : long n l = decide (n ≤ l.length) := by
  unfold long
  rw [natL_eq]
  cases n with
  | zero => rfl
  | succ m =>
    show (List.casesOn ((dropC m).f l) false fun _ _ => true : Bool) = _
    rw [dropC_eq]
    cases h : l.drop m with
    | nil =>
      have := congrArg List.length h
      simp at this
      simp; omega
    | cons a r =>
      have := congrArg List.length h
      simp at this
      simp; omega

/-- A block's number, by its digits. -/
def dig4 {α : Type} (a : Nat) (k : Nat → Nat → Nat → Nat → α) : α := natL (Nat.div a 4096) fun d0 => natL (Nat.mod (Nat.div a 256) 16) fun d1 => natL (Nat.mod (Nat.div a 16) 16) fun d2 => natL (Nat.mod a 16) fun d3 => k d0 d1 d2 d3
theorem dig4_eq {α : Type} (a : Nat) (k : Nat → Nat → Nat → Nat → α) : dig4 a k = k (a / 4096) (a / 256 % 16) (a / 16 % 16) (a % 16) := by
  unfold dig4
  simp only [natL_eq]
  rfl
def hpG (H : Hp) (a : Nat) : Option Blk := ifB (Nat.ble 65536 a) (H.get a) (dig4 a fun d0 d1 d2 d3 => (at16 d3).g ((at16 d2).g ((at16 d1).g ((at16 d0).g H.lo))))
theorem hpG_eq (H : Hp) (a : Nat) : hpG H a = H.get a := by
  unfold hpG
  rw [ifL, dig4_eq]
  split
  · rfl
  · rename_i h
    simp only [Hp.get, hpC]
    rw [if_pos (by omega)]
    rfl
def hpS (H : Hp) (a : Nat) (b : Option Blk) : Hp := ifB (Nat.ble 65536 a) (H.set a b) (dig4 a fun d0 d1 d2 d3 => ⟨(at16 d0).u H.lo fun y => (at16 d1).u y fun z => (at16 d2).u z fun v => (at16 d3).u v fun _ => b, H.hi⟩)
theorem hpS_eq (H : Hp) (a : Nat) (b : Option Blk) : hpS H a b = H.set a b := by
  unfold hpS
  rw [ifL, dig4_eq]
  split
  · rfl
  · rename_i h
    simp only [Hp.set, hpC]
    rw [if_pos (by omega)]
    rfl

/-- The cells behind a pointer. -/
def pcF (H : Hp) (x : AV) : Option (List AV) := ifB (Nat.beq x.t 3) (opt (hpG H x.a) fun B => some (dropF x.b B.cs)) (ifB (Nat.beq x.t 4) (some x.ks) none)
theorem pcF_eq (H : Hp) (x : AV) : pcF H x = ptrCells H x := by
  unfold pcF ptrCells
  rw [ifE, ifE, opt_eq, hpG_eq]
  by_cases h4 : x.t = 4
  · rw [if_neg (by omega), if_pos h4, if_pos h4]
  · rw [if_neg h4, if_neg h4]
    split
    · cases H.get x.a with
      | none => rfl
      | some B => simp only [Option.bind_some, dropF_eq]
    · rfl
def ldC (T : Tabs) (t : Nat) : LaC := match T.tiAt t with
  | some ti => if ti.kind = 1 ∨ ti.kind = 2 then ⟨fun cs => opt ((holdC ti.size).f cs) fun l => some (AV.agg l)⟩ else nthC 0
  | none => ⟨fun _ => none⟩
def xLoadF (T : Tabs) (H : Hp) (t : Nat) (x : AV) : Option AV := opt (pcF H x) (ldC T t).f
theorem xLoadF_eq (T : Tabs) (H : Hp) (t : Nat) (x : AV) : xLoadF T H t x = xLoad T H t x := by
  unfold xLoadF xLoad ldC
  rw [opt_eq, pcF_eq]
  cases T.tiAt t with
  | none => cases ptrCells H x <;> rfl
  | some ti =>
    simp only [Option.bind_some]
    congr 1
    funext cs
    split
    · show opt ((holdC ti.size).f cs) _ = _
      rw [opt_eq, holdC_eq]
      split <;> rfl
    · rw [nthC_eq]
      cases cs <;> rfl

/-- A pointer, so much further. -/
structure MvC where
  f : AV → Option AV
def mvC (k : Nat) : MvC := ⟨fun x => ifB (Nat.beq x.t 3) (some (AV.ptr x.a (Nat.add x.b k))) (ifB (Nat.beq x.t 4) (some (AV.iptr ((dropC k).f x.ks))) none)⟩
theorem mvC_eq (k : Nat) (x : AV) : (mvC k).f x = if x.t = 3 then some (AV.ptr x.a (x.b + k)) else if x.t = 4 then some (AV.iptr (x.ks.drop k)) else none := by
  unfold mvC
  simp only [ifE, dropC_eq]
  rfl
def faC (T : Tabs) (t f : Nat) : MvC := match T.tiAt t with
  | some ti => if ti.kind = 1 then (match ti.fields[f]? with
    | some p => (match T.tiAt p.2 with
      | some tf => if 0 < tf.size then mvC p.1 else ⟨fun _ => none⟩
      | none => ⟨fun _ => none⟩)
    | none => ⟨fun _ => none⟩) else ⟨fun _ => none⟩
  | none => ⟨fun _ => none⟩
theorem faC_eq (T : Tabs) (t f : Nat) (x : AV) : (faC T t f).f x = xFieldAddr T t x f := by
  unfold faC xFieldAddr
  cases T.tiAt t with
  | none => rfl
  | some ti =>
    simp only [Option.bind_some]
    split
    · cases ti.fields[f]? with
      | none => rfl
      | some p =>
        simp only [Option.bind_some]
        cases T.tiAt p.2 with
        | none => rfl
        | some tf =>
          simp only [Option.bind_some]
          split
          · exact mvC_eq _ _
          · rfl
    · rfl
def fdC (T : Tabs) (t f : Nat) : MvC := match T.tiAt t with
  | some ti => if ti.kind = 1 then (match ti.fields[f]? with
    | some p => (match T.tiAt p.2 with
      | some tf => if tf.kind = 1 ∨ tf.kind = 2 then ⟨fun x => ifB (Nat.beq x.t 1) (some (AV.agg ((takeC tf.size).f ((dropC p.1).f x.ks)))) none⟩ else ⟨fun x => ifB (Nat.beq x.t 1) ((nthC p.1).f x.ks) none⟩
      | none => ⟨fun _ => none⟩)
    | none => ⟨fun _ => none⟩) else ⟨fun _ => none⟩
  | none => ⟨fun _ => none⟩
theorem fdC_eq (T : Tabs) (t f : Nat) (x : AV) : (fdC T t f).f x = xField T t x f := by
  unfold fdC xField
  cases T.tiAt t with
  | none => rfl
  | some ti =>
    simp only [Option.bind_some]
    by_cases hk : ti.kind = 1
    · rw [if_pos hk]
      by_cases hx : x.t = 1
      · rw [if_pos ⟨hk, hx⟩]
        cases ti.fields[f]? with
        | none => rfl
        | some p =>
          simp only [Option.bind_some]
          cases T.tiAt p.2 with
          | none => rfl
          | some tf =>
            simp only [Option.bind_some]
            split
            · simp only [ifE, if_pos hx, takeC_eq, dropC_eq]
            · simp only [ifE, if_pos hx, nthC_eq]
      · rw [if_neg (fun h => hx h.2)]
        cases ti.fields[f]? with
        | none => rfl
        | some p =>
          simp only
          cases T.tiAt p.2 with
          | none => rfl
          | some tf =>
            simp only
            split <;> simp only [ifE, if_neg hx]
    · rw [if_neg hk, if_neg (fun h => hk h.1)]

/-- A number that is none below nought. -/
def intN (x : AV) : Option Nat := ifB (Nat.beq x.t 0) (match x.v with
  | .int _ (.ofNat n) => some n
  | _ => none) none
theorem intN_some {x : AV} {n : Nat} (h : intN x = some n) : x.int = some (n : Int) := by
  unfold intN at h
  rw [ifE] at h
  unfold AV.int
  split at h
  · rename_i h0
    rw [if_pos h0]
    split at h
    · rename_i k m hv
      cases h
      rw [hv]
      rfl
    · cases h
  · cases h
/-- An element's address. -/
structure IxC where
  f : AV → AV → Option AV
def iaC (T : Tabs) (t : Nat) : IxC := match T.tiAt t with
  | some ti => (match T.tiAt ti.elem with
    | some te => if ti.kind = 3 then ⟨fun x i => optD (intN i) (xIndexAddr T t x i) fun j => ifB (Nat.ble (Nat.succ j) x.c) (ifB (Nat.beq x.t 5) (some (AV.ptr x.a (Nat.add x.b (Nat.mul j te.size)))) (ifB (Nat.beq x.t 7 || Nat.beq x.t 8) (some (AV.iptr (dropF (Nat.mul j te.size) x.ks))) none)) none⟩
      else if ti.kind = 2 then ⟨fun x i => optD (intN i) (xIndexAddr T t x i) fun j => ifB (Nat.ble (Nat.succ j) ti.len) (ifB (Nat.beq x.t 3) (some (AV.ptr x.a (Nat.add x.b (Nat.mul j te.size)))) (ifB (Nat.beq x.t 4) (some (AV.iptr (dropF (Nat.mul j te.size) x.ks))) none)) none⟩
      else ⟨fun _ _ => none⟩
    | none => ⟨fun _ _ => none⟩)
  | none => ⟨fun _ _ => none⟩
theorem or_beq {a b c d : Nat} {α : Type} (x y : α) : ifB (Nat.beq a b || Nat.beq c d) x y = if a = b ∨ c = d then x else y := by
  rw [ifB_eq, beq_dec, beq_dec]
  by_cases h1 : a = b <;> by_cases h2 : c = d <;> simp [h1, h2]
theorem iaC_eq (T : Tabs) (t : Nat) (x i : AV) : (iaC T t).f x i = xIndexAddr T t x i := by
  unfold iaC
  cases h1 : T.tiAt t with
  | none => simp [xIndexAddr, h1]
  | some ti =>
    simp only
    cases h2 : T.tiAt ti.elem with
    | none =>
      simp only [xIndexAddr, h1, h2, Option.bind_some, Option.bind_none]
      cases i.int <;> rfl
    | some te =>
      simp only
      have key : ∀ (d : Option AV) (f : Nat → Option AV), (∀ j, intN i = some j → f j = d) → optD (intN i) d f = d := by
        intro d f hf
        cases hi : intN i with
        | none => rfl
        | some j => rw [optD_some]; exact hf j hi
      by_cases h3 : ti.kind = 3
      · simp only [if_pos h3]
        refine key _ _ fun j hi => ?_
        have e1 : ((0 : Int) ≤ (j : Int) ∧ (j : Int) < (x.c : Int)) ↔ Nat.succ j ≤ x.c := by omega
        simp only [xIndexAddr, h1, h2, intN_some hi, Option.bind_some, ifL, ifE, or_beq, dropF_eq, if_pos h3, e1, Int.toNat_natCast]
        rfl
      · by_cases h4 : ti.kind = 2
        · simp only [if_neg h3, if_pos h4]
          refine key _ _ fun j hi => ?_
          have e2 : ((0 : Int) ≤ (j : Int) ∧ (j : Int) < (ti.len : Int)) ↔ Nat.succ j ≤ ti.len := by omega
          simp only [xIndexAddr, h1, h2, intN_some hi, Option.bind_some, ifL, ifE, dropF_eq, if_neg h3, if_pos h4, e2, Int.toNat_natCast]
          rfl
        · simp only [if_neg h3, if_neg h4, xIndexAddr, h1, h2, Option.bind_some]
          cases i.int <;> rfl
def ixC (T : Tabs) (t : Nat) : IxC := match T.tiAt t with
  | some ti => (match T.tiAt ti.elem with
    | some te => if ti.kind = 2 ∧ ¬ (te.kind = 1 ∨ te.kind = 2) then ⟨fun x i => optD (intN i) (xIndex T t x i) fun j => ifB (Nat.beq x.t 1) (ifB (Nat.ble (Nat.succ j) ti.len) (natL (Nat.mul j te.size) fun k => (nthC k).f x.ks) none) (xIndex T t x i)⟩ else ⟨fun x i => xIndex T t x i⟩
    | none => ⟨fun x i => xIndex T t x i⟩)
  | none => ⟨fun _ _ => none⟩
theorem ixC_eq (T : Tabs) (t : Nat) (x i : AV) : (ixC T t).f x i = xIndex T t x i := by
  unfold ixC
  cases h1 : T.tiAt t with
  | none => simp [xIndex, h1]
  | some ti =>
    simp only
    cases h2 : T.tiAt ti.elem with
    | none => rfl
    | some te =>
      simp only
      split
      · rename_i hk
        simp only
        cases hi : intN i with
        | none => rfl
        | some j =>
          simp only [optD_some, ifE, ifL, natL_eq, nthC_eq]
          split
          · rename_i hx
            have hj := intN_some hi
            have e2 : ((0 : Int) ≤ (j : Int) ∧ (j : Int) < (ti.len : Int)) ↔ Nat.succ j ≤ ti.len := by omega
            simp only [xIndex, h1, h2, hj, Option.bind_some, if_pos (And.intro hk.1 hx), e2, if_neg hk.2, Int.toNat_natCast]
            rfl
          · rfl
      · rfl

/-- len. -/
def lnC (T : Tabs) (t : Nat) : MvC := match T.tiAt t with
  | some ti => if ti.kind = 3 then ⟨fun x => ifB (Nat.beq x.t 5 || Nat.beq x.t 7) (some (AV.ex (.int .i64 (.ofNat x.c)))) (xLen T t x)⟩ else ⟨fun x => xLen T t x⟩
  | none => ⟨fun x => xLen T t x⟩
theorem lnC_eq (T : Tabs) (t : Nat) (x : AV) : (lnC T t).f x = xLen T t x := by
  unfold lnC
  cases h1 : T.tiAt t with
  | none => rfl
  | some ti =>
    simp only
    split
    · rename_i hk
      simp only [or_beq]
      split
      · rename_i hx
        simp only [xLen, h1, Option.bind_some, if_pos hk]
        rw [if_pos (by omega)]
        rfl
      · rfl
    · rfl

/-- Two numbers of kind i64. -/
def two (x y : AV) : Option (Nat × Nat) := ifB (Nat.beq x.t 0) (ifB (Nat.beq y.t 0) (match x.v with
  | .int .i64 (.ofNat a) => (match y.v with
    | .int .i64 (.ofNat b) => some (a, b)
    | _ => none)
  | _ => none) none) none
theorem two_some {x y : AV} {p : Nat × Nat} (h : two x y = some p) : x.exact = some (.int .i64 (p.1 : Int)) ∧ y.exact = some (.int .i64 (p.2 : Int)) := by
  unfold two at h
  rw [ifE, ifE] at h
  split at h
  · rename_i h0
    split at h
    · rename_i h0'
      split at h
      · rename_i a ha
        split at h
        · rename_i b hb
          cases h
          unfold AV.exact
          rw [if_pos h0, if_pos h0', ha, hb]
          exact ⟨rfl, rfl⟩
        · cases h
      · cases h
    · cases h
  · cases h
def exB (b : Bool) : Option AV := some (AV.ex (.bool b))
def exI (n : Nat) : Option AV := some (AV.ex (.int .i64 (.ofNat n)))
def biC (P : Program) (T : Tabs) (op : BinOp) (t : Nat) (a b : Operand) : IxC := match op with
  | .eql => ⟨fun x y => optD (two x y) (xBin P T .eql t a b x y) fun p => exB (Nat.beq p.1 p.2)⟩
  | .neq => ⟨fun x y => optD (two x y) (xBin P T .neq t a b x y) fun p => exB (not (Nat.beq p.1 p.2))⟩
  | .lss => ⟨fun x y => optD (two x y) (xBin P T .lss t a b x y) fun p => exB (Nat.ble (Nat.succ p.1) p.2)⟩
  | .leq => ⟨fun x y => optD (two x y) (xBin P T .leq t a b x y) fun p => exB (Nat.ble p.1 p.2)⟩
  | .gtr => ⟨fun x y => optD (two x y) (xBin P T .gtr t a b x y) fun p => exB (Nat.ble (Nat.succ p.2) p.1)⟩
  | .geq => ⟨fun x y => optD (two x y) (xBin P T .geq t a b x y) fun p => exB (Nat.ble p.2 p.1)⟩
  | .add => ⟨fun x y => optD (two x y) (xBin P T .add t a b x y) fun p => ifB (Nat.ble (Nat.add p.1 p.2) 4611686018427387903) (natL (Nat.add p.1 p.2) exI) (xBin P T .add t a b x y)⟩
  | .sub => ⟨fun x y => optD (two x y) (xBin P T .sub t a b x y) fun p => ifB (Nat.ble p.2 p.1 && Nat.ble p.1 4611686018427387903) (natL (Nat.sub p.1 p.2) exI) (xBin P T .sub t a b x y)⟩
  | op => ⟨fun x y => xBin P T op t a b x y⟩
theorem wrap_ok {n : Nat} (h : n ≤ 4611686018427387903) : IntKind.i64.wrap (n : Int) = n := by
  unfold IntKind.wrap
  have e1 : ((n : Int) % (2 ^ IntKind.i64.bits : Int)) = n := Int.emod_eq_of_lt (by omega) (by show (n : Int) < 2 ^ 64; omega)
  simp only [e1]
  have h2 : ¬ ((n : Int) ≥ (2 ^ (IntKind.i64.bits - 1) : Int)) := by show ¬ ((n : Int) ≥ 2 ^ 63); omega
  simp only [h2, decide_false, Bool.and_false, Bool.false_eq_true, if_false]
theorem ble_dec (a b : Nat) : Nat.ble a b = decide (a ≤ b) := by
  by_cases h : a ≤ b
  · rw [Nat.ble_eq_true_of_le h, decide_eq_true h]
  · rw [decide_eq_false h]
    cases h9 : Nat.ble a b with
    | false => rfl
    | true => exact absurd (Nat.le_of_ble_eq_true h9) h
theorem biC_eq (P : Program) (T : Tabs) (op : BinOp) (t : Nat) (a b : Operand) (x y : AV) : (biC P T op t a b).f x y = xBin P T op t a b x y := by
  have cmp : ∀ (op : BinOp) (c : Nat × Nat → Bool) (d : Int → Int → Bool), (∀ p1 p2 : Nat, pureRun P (do eqGuard op t a b (.int .i64 (p1 : Int)) (.int .i64 (p2 : Int)); binOp op t (.int .i64 (p1 : Int)) (.int .i64 (p2 : Int)) : Sem Value) = some (.bool (d p1 p2))) → (∀ p1 p2 : Nat, c (p1, p2) = d p1 p2) → (optD (two x y) (xBin P T op t a b x y) fun p => exB (c p)) = xBin P T op t a b x y := by
    intro op c d h1 h2
    cases h : two x y with
    | none => rfl
    | some p =>
      obtain ⟨p1, p2⟩ := p
      obtain ⟨e1, e2⟩ := two_some h
      simp only [optD_some] at e1 e2 ⊢
      simp only [xBin, e1, e2]
      rw [h1, h2]
      rfl
  unfold biC
  cases op <;> simp only [] <;> first
    | rfl
    | skip
  case eql => exact cmp .eql (fun p => Nat.beq p.1 p.2) (fun a b => a == b) (fun _ _ => rfl) (fun p1 p2 => by
    rw [beq_dec]
    by_cases h : p1 = p2
    · simp [h]
    · have h2 : ¬ ((p1 : Int) = (p2 : Int)) := by omega
      simp [h, h2])
  case neq => exact cmp .neq (fun p => not (Nat.beq p.1 p.2)) (fun a b => a != b) (fun _ _ => rfl) (fun p1 p2 => by
    rw [beq_dec]
    by_cases h : p1 = p2
    · simp [h]
    · have h2 : ¬ ((p1 : Int) = (p2 : Int)) := by omega
      simp [h, h2])
  case lss => exact cmp .lss (fun p => Nat.ble (Nat.succ p.1) p.2) (fun a b => decide (a < b)) (fun _ _ => rfl) (fun p1 p2 => by rw [ble_dec]; congr 1; simp; omega)
  case leq => exact cmp .leq (fun p => Nat.ble p.1 p.2) (fun a b => decide (a ≤ b)) (fun _ _ => rfl) (fun p1 p2 => by rw [ble_dec]; congr 1; simp)
  case gtr => exact cmp .gtr (fun p => Nat.ble (Nat.succ p.2) p.1) (fun a b => decide (a > b)) (fun _ _ => rfl) (fun p1 p2 => by rw [ble_dec]; congr 1; simp; omega)
  case geq => exact cmp .geq (fun p => Nat.ble p.2 p.1) (fun a b => decide (a ≥ b)) (fun _ _ => rfl) (fun p1 p2 => by rw [ble_dec]; congr 1; simp)
  case add =>
    cases h : two x y with
    | none => rfl
    | some p =>
      obtain ⟨p1, p2⟩ := p
      obtain ⟨e1, e2⟩ := two_some h
      simp only [optD_some] at e1 e2 ⊢
      rw [ifL]
      split
      · rename_i hb
        rw [natL_eq]
        simp only [xBin, e1, e2]
        have : pureRun P (do eqGuard .add t a b (.int .i64 (p1 : Int)) (.int .i64 (p2 : Int)); binOp .add t (.int .i64 (p1 : Int)) (.int .i64 (p2 : Int)) : Sem Value) = some (.int .i64 (IntKind.i64.wrap ((p1 : Int) + p2))) := rfl
        rw [this, show (p1 : Int) + (p2 : Int) = ((p1 + p2 : Nat) : Int) by omega, wrap_ok (show p1 + p2 ≤ 4611686018427387903 from hb)]
        rfl
      · rfl
  case sub =>
    cases h : two x y with
    | none => rfl
    | some p =>
      obtain ⟨p1, p2⟩ := p
      obtain ⟨e1, e2⟩ := two_some h
      simp only [optD_some] at e1 e2 ⊢
      rw [ifB_eq]
      split
      · rename_i hb
        simp only [Bool.and_eq_true] at hb
        have h1 := Nat.le_of_ble_eq_true hb.1
        have h2 := Nat.le_of_ble_eq_true hb.2
        rw [natL_eq]
        simp only [xBin, e1, e2]
        have : pureRun P (do eqGuard .sub t a b (.int .i64 (p1 : Int)) (.int .i64 (p2 : Int)); binOp .sub t (.int .i64 (p1 : Int)) (.int .i64 (p2 : Int)) : Sem Value) = some (.int .i64 (IntKind.i64.wrap ((p1 : Int) - p2))) := rfl
        rw [this, show (p1 : Int) - (p2 : Int) = ((p1 - p2 : Nat) : Int) by omega, wrap_ok (by omega)]
        rfl
      · rfl
end Go.Proofs.YthklnpkjlepagaaGreatDoor.Ab
