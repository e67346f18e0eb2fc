/- Abstract values: what is known of a value, of memory; how they stand to the true ones. -/
import Derived.WalkKit
import Derived.WalkSpells
import Derived.WalkLawsBesides
import Derived.Orders
namespace Go.Proofs.YthklnpkjlepagaaGreatDoor.Ab
open Go.RowKit

/-- What is known of a value: t: 0 just v; 1 a struct or an array of these cells; 2 a tuple; 3 a pointer to cell b of block a; 4 a pointer to cells that are never written; 5 a slice of c elements of d cells, from cell b of block a on; 6 a slice of c elements of which no more is known; 7 a slice of c elements of d cells that are never written, with no room behind; 8 one with room; 9 a function v with what it bears, the first a of it ahead; 10 an interface value of type a; 11 anything; 12 the one of the name a; 13 the map that block a is; 14 the int of the name a; 17 one of the two truths. -/
structure AV where
  t : Nat
  v : Value
  a : Nat
  b : Nat
  c : Nat
  d : Nat
  ks : List AV

def AV.ex (v : Value) : AV := ⟨0, v, 0, 0, 0, 0, []⟩
def AV.agg (ks : List AV) : AV := ⟨1, .nilFunc, 0, 0, 0, 0, ks⟩
def AV.tup (ks : List AV) : AV := ⟨2, .nilFunc, 0, 0, 0, 0, ks⟩
def AV.ptr (a b : Nat) : AV := ⟨3, .nilFunc, a, b, 0, 0, []⟩
def AV.iptr (ks : List AV) : AV := ⟨4, .nilFunc, 0, 0, 0, 0, ks⟩
def AV.sl (a b c d : Nat) : AV := ⟨5, .nilFunc, a, b, c, d, []⟩
def AV.row (c d : Nat) (ks : List AV) : AV := ⟨7, .nilFunc, 0, 0, c, d, ks⟩
def AV.len (c : Nat) : AV := ⟨6, .nilFunc, 0, 0, c, 0, []⟩
def AV.row8 (c d : Nat) (ks : List AV) : AV := ⟨8, .nilFunc, 0, 0, c, d, ks⟩
def AV.fn (v : Value) (a : Nat) (ks : List AV) : AV := ⟨9, v, a, 0, 0, 0, ks⟩
def AV.ifc (a : Nat) (x : AV) : AV := ⟨10, .nilFunc, a, 0, 0, 0, [x]⟩
def AV.sym (a : Nat) : AV := ⟨12, .nilFunc, a, 0, 0, 0, []⟩
def AV.mp (a : Nat) : AV := ⟨13, .nilFunc, a, 0, 0, 0, []⟩
def AV.isym (a : Nat) : AV := ⟨14, .nilFunc, a, 0, 0, 0, []⟩
def AV.ub : AV := ⟨17, .nilFunc, 0, 0, 0, 0, []⟩
def AV.any : AV := ⟨11, .nilFunc, 0, 0, 0, 0, []⟩

/-- A block: the type of its elements, the cells that are known. -/
structure Blk where
  ty : Nat
  cs : List AV

/-- Sixteen beside each other. -/
structure P16 (α : Type) where
  p0 : α
  p1 : α
  p2 : α
  p3 : α
  p4 : α
  p5 : α
  p6 : α
  p7 : α
  p8 : α
  p9 : α
  p10 : α
  p11 : α
  p12 : α
  p13 : α
  p14 : α
  p15 : α
def P16.all {α : Type} (x : α) : P16 α := ⟨x, x, x, x, x, x, x, x, x, x, x, x, x, x, x, x⟩
/-- How a part is looked at, and turned. -/
structure Ln (α β : Type) where
  g : α → β
  u : α → (β → β) → α
def Ln.then {α β γ : Type} (l : Ln α β) (m : Ln β γ) : Ln α γ := ⟨fun x => m.g (l.g x), fun x f => l.u x fun y => m.u y f⟩
def at16 {α : Type} (i : Nat) : Ln (P16 α) α := match i with
  | 0 => ⟨fun p => p.p0, fun p f => P16.casesOn p fun x0 x1 x2 x3 x4 x5 x6 x7 x8 x9 x10 x11 x12 x13 x14 x15 => ⟨f x0, x1, x2, x3, x4, x5, x6, x7, x8, x9, x10, x11, x12, x13, x14, x15⟩⟩
  | 1 => ⟨fun p => p.p1, fun p f => P16.casesOn p fun x0 x1 x2 x3 x4 x5 x6 x7 x8 x9 x10 x11 x12 x13 x14 x15 => ⟨x0, f x1, x2, x3, x4, x5, x6, x7, x8, x9, x10, x11, x12, x13, x14, x15⟩⟩
  | 2 => ⟨fun p => p.p2, fun p f => P16.casesOn p fun x0 x1 x2 x3 x4 x5 x6 x7 x8 x9 x10 x11 x12 x13 x14 x15 => ⟨x0, x1, f x2, x3, x4, x5, x6, x7, x8, x9, x10, x11, x12, x13, x14, x15⟩⟩
  | 3 => ⟨fun p => p.p3, fun p f => P16.casesOn p fun x0 x1 x2 x3 x4 x5 x6 x7 x8 x9 x10 x11 x12 x13 x14 x15 => ⟨x0, x1, x2, f x3, x4, x5, x6, x7, x8, x9, x10, x11, x12, x13, x14, x15⟩⟩
  | 4 => ⟨fun p => p.p4, fun p f => P16.casesOn p fun x0 x1 x2 x3 x4 x5 x6 x7 x8 x9 x10 x11 x12 x13 x14 x15 => ⟨x0, x1, x2, x3, f x4, x5, x6, x7, x8, x9, x10, x11, x12, x13, x14, x15⟩⟩
  | 5 => ⟨fun p => p.p5, fun p f => P16.casesOn p fun x0 x1 x2 x3 x4 x5 x6 x7 x8 x9 x10 x11 x12 x13 x14 x15 => ⟨x0, x1, x2, x3, x4, f x5, x6, x7, x8, x9, x10, x11, x12, x13, x14, x15⟩⟩
  | 6 => ⟨fun p => p.p6, fun p f => P16.casesOn p fun x0 x1 x2 x3 x4 x5 x6 x7 x8 x9 x10 x11 x12 x13 x14 x15 => ⟨x0, x1, x2, x3, x4, x5, f x6, x7, x8, x9, x10, x11, x12, x13, x14, x15⟩⟩
  | 7 => ⟨fun p => p.p7, fun p f => P16.casesOn p fun x0 x1 x2 x3 x4 x5 x6 x7 x8 x9 x10 x11 x12 x13 x14 x15 => ⟨x0, x1, x2, x3, x4, x5, x6, f x7, x8, x9, x10, x11, x12, x13, x14, x15⟩⟩
  | 8 => ⟨fun p => p.p8, fun p f => P16.casesOn p fun x0 x1 x2 x3 x4 x5 x6 x7 x8 x9 x10 x11 x12 x13 x14 x15 => ⟨x0, x1, x2, x3, x4, x5, x6, x7, f x8, x9, x10, x11, x12, x13, x14, x15⟩⟩
  | 9 => ⟨fun p => p.p9, fun p f => P16.casesOn p fun x0 x1 x2 x3 x4 x5 x6 x7 x8 x9 x10 x11 x12 x13 x14 x15 => ⟨x0, x1, x2, x3, x4, x5, x6, x7, x8, f x9, x10, x11, x12, x13, x14, x15⟩⟩
  | 10 => ⟨fun p => p.p10, fun p f => P16.casesOn p fun x0 x1 x2 x3 x4 x5 x6 x7 x8 x9 x10 x11 x12 x13 x14 x15 => ⟨x0, x1, x2, x3, x4, x5, x6, x7, x8, x9, f x10, x11, x12, x13, x14, x15⟩⟩
  | 11 => ⟨fun p => p.p11, fun p f => P16.casesOn p fun x0 x1 x2 x3 x4 x5 x6 x7 x8 x9 x10 x11 x12 x13 x14 x15 => ⟨x0, x1, x2, x3, x4, x5, x6, x7, x8, x9, x10, f x11, x12, x13, x14, x15⟩⟩
  | 12 => ⟨fun p => p.p12, fun p f => P16.casesOn p fun x0 x1 x2 x3 x4 x5 x6 x7 x8 x9 x10 x11 x12 x13 x14 x15 => ⟨x0, x1, x2, x3, x4, x5, x6, x7, x8, x9, x10, x11, f x12, x13, x14, x15⟩⟩
  | 13 => ⟨fun p => p.p13, fun p f => P16.casesOn p fun x0 x1 x2 x3 x4 x5 x6 x7 x8 x9 x10 x11 x12 x13 x14 x15 => ⟨x0, x1, x2, x3, x4, x5, x6, x7, x8, x9, x10, x11, x12, f x13, x14, x15⟩⟩
  | 14 => ⟨fun p => p.p14, fun p f => P16.casesOn p fun x0 x1 x2 x3 x4 x5 x6 x7 x8 x9 x10 x11 x12 x13 x14 x15 => ⟨x0, x1, x2, x3, x4, x5, x6, x7, x8, x9, x10, x11, x12, x13, f x14, x15⟩⟩
  | _ => ⟨fun p => p.p15, fun p f => P16.casesOn p fun x0 x1 x2 x3 x4 x5 x6 x7 x8 x9 x10 x11 x12 x13 x14 x15 => ⟨x0, x1, x2, x3, x4, x5, x6, x7, x8, x9, x10, x11, x12, x13, x14, f x15⟩⟩
theorem sixteen {i : Nat} (h : i < 16) : i = 0 ∨ i = 1 ∨ i = 2 ∨ i = 3 ∨ i = 4 ∨ i = 5 ∨ i = 6 ∨ i = 7 ∨ i = 8 ∨ i = 9 ∨ i = 10 ∨ i = 11 ∨ i = 12 ∨ i = 13 ∨ i = 14 ∨ i = 15 := by omega
theorem at16_get {α : Type} {i j : Nat} (hi : i < 16) (hj : j < 16) (p : P16 α) (f : α → α) : (at16 j).g ((at16 i).u p f) = if i = j then f ((at16 i).g p) else (at16 j).g p := by
  rcases p with ⟨x0, x1, x2, x3, x4, x5, x6, x7, x8, x9, x10, x11, x12, x13, x14, x15⟩
  rcases sixteen hi with rfl | rfl | rfl | rfl | rfl | rfl | rfl | rfl | rfl | rfl | rfl | rfl | rfl | rfl | rfl | rfl <;> rcases sixteen hj with rfl | rfl | rfl | rfl | rfl | rfl | rfl | rfl | rfl | rfl | rfl | rfl | rfl | rfl | rfl | rfl <;> rfl
theorem at16_all {α : Type} (x : α) (i : Nat) (h : i < 16) : (at16 i).g (P16.all x) = x := by
  rcases sixteen h with rfl | rfl | rfl | rfl | rfl | rfl | rfl | rfl | rfl | rfl | rfl | rfl | rfl | rfl | rfl | rfl <;> rfl

/-- Slots of a frame. -/
structure Fr where
  lo : P16 (P16 AV)
  hi : P16 (P16 AV)
def half (i : Nat) : Ln Fr (P16 (P16 AV)) := match i with
  | 0 => ⟨fun p => p.lo, fun p f => Fr.casesOn p fun a b => ⟨f a, b⟩⟩
  | _ => ⟨fun p => p.hi, fun p f => Fr.casesOn p fun a b => ⟨a, f b⟩⟩
theorem half_get {i j : Nat} (hi : i < 2) (hj : j < 2) (p : Fr) (f : P16 (P16 AV) → P16 (P16 AV)) : (half j).g ((half i).u p f) = if i = j then f ((half i).g p) else (half j).g p := by
  rcases p with ⟨a, b⟩
  rcases (show i = 0 ∨ i = 1 by omega) with rfl | rfl <;> rcases (show j = 0 ∨ j = 1 by omega) with rfl | rfl <;> rfl
def Fr.all (x : AV) : Fr := ⟨P16.all (P16.all x), P16.all (P16.all x)⟩
theorem half_all (x : AV) (i : Nat) : (half i).g (Fr.all x) = P16.all (P16.all x) := by
  unfold half
  split <;> rfl
def slot (t : Nat) : Ln Fr AV := (half (t / 256)).then ((at16 (t / 16 % 16)).then (at16 (t % 16)))
theorem slot_get {t u : Nat} (ht : t < 512) (hu : u < 512) (p : Fr) (x : AV) : (slot u).g ((slot t).u p fun _ => x) = if t = u then x else (slot u).g p := by
  simp only [slot, Ln.then]
  rw [half_get (by omega) (by omega)]
  by_cases h1 : t / 256 = u / 256
  · rw [if_pos h1, at16_get (by omega) (by omega)]
    by_cases h2 : t / 16 % 16 = u / 16 % 16
    · rw [if_pos h2, at16_get (by omega) (by omega)]
      by_cases h3 : t % 16 = u % 16
      · rw [if_pos h3, if_pos (by omega)]
      · rw [if_neg h3, if_neg (by omega), h1, h2]
    · rw [if_neg h2, if_neg (by omega), h1]
  · rw [if_neg h1, if_neg (by omega)]
theorem slot_all (x : AV) (t : Nat) : (slot t).g (Fr.all x) = x := by
  simp only [slot, Ln.then]
  rw [half_all, at16_all _ _ (by omega), at16_all _ _ (by omega)]
/-- How a slot is read, and written, in a frame of so many. -/
structure Rd where
  g : Fr → AV
structure Wr where
  s : Fr → AV → Fr
def rdC (t : Nat) : Rd := if t < 512 then ⟨(slot t).g⟩ else ⟨fun _ => AV.any⟩
def wrC (N : Nat) (d : Option Nat) : Wr := match d with
  | some t => if t < N ∧ t < 512 then ⟨fun fr x => (slot t).u fr fun _ => x⟩ else ⟨fun fr _ => fr⟩
  | none => ⟨fun fr _ => fr⟩
def Fr.get (fr : Fr) (t : Nat) : AV := (rdC t).g fr
def putA (N : Nat) (fr : Fr) (d : Option Nat) (x : AV) : Fr := (wrC N d).s fr x
theorem putA_get (N : Nat) (fr : Fr) (d : Option Nat) (x : AV) (t : Nat) : (putA N fr d x).get t = if d = some t ∧ t < N ∧ t < 512 then x else fr.get t := by
  cases d with
  | none => simp [putA, wrC]
  | some d =>
    simp only [putA, wrC, Fr.get, rdC, Option.some.injEq]
    by_cases h : d < N ∧ d < 512
    · rw [if_pos h]
      by_cases ht : t < 512
      · rw [if_pos ht]
        show (slot t).g ((slot d).u fr fun _ => x) = _
        rw [slot_get h.2 ht]
        by_cases e : d = t
        · subst e; rw [if_pos rfl, if_pos ⟨rfl, h⟩]
        · rw [if_neg e, if_neg fun g => e g.1]
      · rw [if_neg ht, if_neg fun g => ht g.2.2]
    · rw [if_neg h, if_neg (show ¬ (d = t ∧ t < N ∧ t < 512) from by rintro ⟨rfl, g⟩; exact h g)]

/-- Blocks of high numbers, by their numbers' bits. -/
structure HpT where
  x : Option Blk
  kids : List HpT
def HpT.emp : HpT := ⟨none, []⟩
def HpT.left (s : HpT) : HpT := match s.kids with
  | [] => HpT.emp
  | l :: _ => l
def HpT.right (s : HpT) : HpT := match s.kids with
  | [] => HpT.emp
  | _ :: [] => HpT.emp
  | _ :: r :: _ => r
def HpT.getN : Nat → HpT → Nat → Option Blk
  | 0, s, _ => s.x
  | k + 1, s, i => if i = 0 then s.x else if i % 2 = 1 then HpT.getN k s.left (i / 2) else HpT.getN k s.right (i / 2 - 1)
def HpT.setN : Nat → HpT → Nat → Option Blk → HpT
  | 0, s, _, t => ⟨t, s.kids⟩
  | k + 1, s, i, t => if i = 0 then ⟨t, s.kids⟩ else if i % 2 = 1 then ⟨s.x, [HpT.setN k s.left (i / 2) t, s.right]⟩ else ⟨s.x, [s.left, HpT.setN k s.right (i / 2 - 1) t]⟩
def HpT.get (h : HpT) (i : Nat) : Option Blk := HpT.getN (i + 1) h i
def HpT.set (h : HpT) (i : Nat) (b : Option Blk) : HpT := HpT.setN (i + 1) h i b

theorem HpT.getN_setN : ∀ (k k' : Nat) (s : HpT) (i j : Nat) (t : Option Blk), i < k → j < k' → HpT.getN k' (HpT.setN k s i t) j = if i = j then t else HpT.getN k' s j
  | 0, _, _, _, _, _, h, _ => absurd h (Nat.not_lt_zero _)
  | _ + 1, 0, _, _, _, _, _, h => absurd h (Nat.not_lt_zero _)
  | k + 1, k' + 1, s, i, j, t, hi, hj => by
    by_cases h0 : i = 0
    · subst h0
      by_cases hj0 : j = 0
      · subst hj0
        simp [HpT.setN, HpT.getN]
      · rw [if_neg (fun e => hj0 e.symm)]
        simp only [HpT.setN, if_true]
        simp only [HpT.getN, if_neg hj0]
        rfl
    · by_cases hi1 : i % 2 = 1
      · simp only [HpT.setN, if_neg h0, if_pos hi1]
        by_cases hj0 : j = 0
        · subst hj0
          simp only [HpT.getN, if_true, if_neg h0]
        · by_cases hj1 : j % 2 = 1
          · have ih := HpT.getN_setN k k' s.left (i / 2) (j / 2) t (by omega) (by omega)
            simp only [HpT.getN, if_neg hj0, if_pos hj1]
            refine Eq.trans (show _ = HpT.getN k' (HpT.setN k s.left (i / 2) t) (j / 2) from rfl) (ih.trans ?_)
            by_cases he : i = j
            · rw [if_pos he, if_pos (by rw [he])]
            · rw [if_neg he, if_neg (by omega)]
          · rw [if_neg (show ¬ i = j by omega)]
            simp only [HpT.getN, if_neg hj0, if_neg hj1]
            rfl
      · simp only [HpT.setN, if_neg h0, if_neg hi1]
        by_cases hj0 : j = 0
        · subst hj0
          simp only [HpT.getN, if_true, if_neg h0]
        · by_cases hj1 : j % 2 = 1
          · rw [if_neg (show ¬ i = j by omega)]
            simp only [HpT.getN, if_neg hj0, if_pos hj1]
            rfl
          · have ih := HpT.getN_setN k k' s.right (i / 2 - 1) (j / 2 - 1) t (by omega) (by omega)
            simp only [HpT.getN, if_neg hj0, if_neg hj1]
            refine Eq.trans (show _ = HpT.getN k' (HpT.setN k s.right (i / 2 - 1) t) (j / 2 - 1) from rfl) (ih.trans ?_)
            by_cases he : i = j
            · rw [if_pos he, if_pos (by rw [he])]
            · rw [if_neg he, if_neg (by omega)]
theorem HpT.get_set (h : HpT) (i j : Nat) (b : Option Blk) : (h.set i b).get j = if i = j then b else h.get j := HpT.getN_setN _ _ _ _ _ _ (by omega) (by omega)

/-- Blocks, by their numbers. -/
abbrev Lo := P16 (P16 (P16 (P16 (Option Blk))))
structure Hp where
  lo : Lo
  hi : HpT
def Hp.emp : Hp := ⟨P16.all (P16.all (P16.all (P16.all none))), HpT.emp⟩
def bin (i : Nat) : Ln Lo (Option Blk) := (at16 (i / 4096)).then ((at16 (i / 256 % 16)).then ((at16 (i / 16 % 16)).then (at16 (i % 16))))
theorem bin_get {i j : Nat} (hi : i < 65536) (hj : j < 65536) (p : Lo) (x : Option Blk) : (bin j).g ((bin i).u p fun _ => x) = if i = j then x else (bin j).g p := by
  simp only [bin, Ln.then]
  rw [at16_get (by omega) (by omega)]
  by_cases h1 : i / 4096 = j / 4096
  · rw [if_pos h1, at16_get (by omega) (by omega)]
    by_cases h2 : i / 256 % 16 = j / 256 % 16
    · rw [if_pos h2, at16_get (by omega) (by omega)]
      by_cases h3 : i / 16 % 16 = j / 16 % 16
      · rw [if_pos h3, at16_get (by omega) (by omega)]
        by_cases h4 : i % 16 = j % 16
        · rw [if_pos h4, if_pos (by omega)]
        · rw [if_neg h4, if_neg (by omega), h1, h2, h3]
      · rw [if_neg h3, if_neg (by omega), h1, h2]
    · rw [if_neg h2, if_neg (by omega), h1]
  · rw [if_neg h1, if_neg (by omega)]
structure HpC where
  g : Hp → Option Blk
  s : Hp → Option Blk → Hp
def hpC (i : Nat) : HpC := if i < 65536 then ⟨fun h => (bin i).g h.lo, fun h b => ⟨(bin i).u h.lo fun _ => b, h.hi⟩⟩ else ⟨fun h => h.hi.get i, fun h b => ⟨h.lo, h.hi.set i b⟩⟩
def Hp.get (h : Hp) (i : Nat) : Option Blk := (hpC i).g h
def Hp.set (h : Hp) (i : Nat) (b : Option Blk) : Hp := (hpC i).s h b
theorem Hp.get_set (h : Hp) (i j : Nat) (b : Option Blk) : (h.set i b).get j = if i = j then b else h.get j := by
  simp only [Hp.get, Hp.set, hpC]
  by_cases hi : i < 65536
  · by_cases hj : j < 65536
    · rw [if_pos hi, if_pos hj]
      exact bin_get hi hj h.lo b
    · rw [if_pos hi, if_neg hj, if_neg (by omega)]
  · by_cases hj : j < 65536
    · rw [if_neg hi, if_pos hj, if_neg (by omega)]
    · rw [if_neg hi, if_neg hj]
      exact HpT.get_set _ _ _ _
theorem Hp.get_same (h : Hp) (i : Nat) (b : Option Blk) : (h.set i b).get i = b := by rw [Hp.get_set, if_pos rfl]
theorem Hp.get_other (h : Hp) {i j : Nat} (b : Option Blk) (hn : i ≠ j) : (h.set i b).get j = h.get j := by rw [Hp.get_set, if_neg hn]
theorem empT_getN : ∀ (k b : Nat), HpT.getN k HpT.emp b = none
  | 0, _ => rfl
  | k + 1, b => by
    simp only [HpT.getN]
    split
    · rfl
    · split
      · exact empT_getN k _
      · exact empT_getN k _
theorem emp_get (b : Nat) : Hp.emp.get b = none := by
  simp only [Hp.get, hpC]
  by_cases h : b < 65536
  · rw [if_pos h]
    simp only [bin, Ln.then, Hp.emp]
    rw [at16_all _ _ (by omega), at16_all _ _ (by omega), at16_all _ _ (by omega), at16_all _ _ (by omega)]
  · rw [if_neg h]
    exact empT_getN _ _

/-- The numbers of blocks that were written, as bits. -/
def bit1 (a : Nat) : Nat := Nat.shiftLeft 1 a
theorem bit1_iff {a b : Nat} : (bit1 a).testBit b = true ↔ b = a := by
  show (1 <<< a).testBit b = true ↔ _
  rw [Nat.one_shiftLeft, Nat.testBit_two_pow]
  simp [eq_comm]
theorem no_bit {b : Nat} {p : Prop} (h : Nat.testBit 0 b = true) : p := by simp at h

/-- One beside the other. -/
def All2 {α β : Type} (R : α → β → Prop) : List α → List β → Prop
  | [], [] => True
  | a :: as, b :: bs => R a b ∧ All2 R as bs
  | _, _ => False
theorem All2.len {α β : Type} {R : α → β → Prop} : ∀ {as : List α} {bs : List β}, All2 R as bs → as.length = bs.length
  | [], [], _ => rfl
  | _ :: _, _ :: _, h => by simp [All2.len h.2]
  | [], _ :: _, h => h.elim
  | _ :: _, [], h => h.elim
theorem All2.imp {α β : Type} {R S : α → β → Prop} (h : ∀ a b, R a b → S a b) : ∀ {as : List α} {bs : List β}, All2 R as bs → All2 S as bs
  | [], [], _ => trivial
  | _ :: _, _ :: _, g => ⟨h _ _ g.1, All2.imp h g.2⟩
  | [], _ :: _, g => g.elim
  | _ :: _, [], g => g.elim
theorem All2.get {α β : Type} {R : α → β → Prop} : ∀ {as : List α} {bs : List β}, All2 R as bs → ∀ {i : Nat} {a : α}, as[i]? = some a → ∃ b, bs[i]? = some b ∧ R a b
  | [], [], _, i, a, hi => by simp at hi
  | x :: _, y :: _, h, 0, a, hi => by
    simp at hi
    exact ⟨y, rfl, hi ▸ h.1⟩
  | _ :: as, _ :: bs, h, i + 1, a, hi => by
    simp only [List.getElem?_cons_succ] at hi ⊢
    exact All2.get h.2 hi
  | [], _ :: _, h, _, _, _ => h.elim
  | _ :: _, [], h, _, _, _ => h.elim
theorem All2.mk {α β : Type} {R : α → β → Prop} : ∀ {as : List α} {bs : List β}, as.length = bs.length → (∀ (i : Nat) (a : α) (b : β), as[i]? = some a → bs[i]? = some b → R a b) → All2 R as bs
  | [], [], _, _ => trivial
  | x :: as, y :: bs, hl, h => ⟨h 0 x y rfl rfl, All2.mk (by simpa using hl) fun i a b ha hb => h (i + 1) a b (by simpa using ha) (by simpa using hb)⟩
  | [], _ :: _, hl, _ => by simp at hl
  | _ :: _, [], hl, _ => by simp at hl
theorem All2.app {α β : Type} {R : α → β → Prop} : ∀ {as as' : List α} {bs bs' : List β}, All2 R as bs → All2 R as' bs' → All2 R (as ++ as') (bs ++ bs')
  | [], _, [], _, _, g => g
  | _ :: _, _, _ :: _, _, h, g => ⟨h.1, All2.app h.2 g⟩
  | [], _, _ :: _, _, h, _ => h.elim
  | _ :: _, _, [], _, h, _ => h.elim
theorem All2.take {α β : Type} {R : α → β → Prop} (n : Nat) {as : List α} {bs : List β} (h : All2 R as bs) : All2 R (as.take n) (bs.take n) :=
  All2.mk (by simp [h.len]) fun i a b ha hb => by
    rw [List.getElem?_take] at ha hb
    split at ha
    · rename_i hlt
      rw [if_pos hlt] at hb
      obtain ⟨b', hb', hr⟩ := h.get ha
      rw [hb'] at hb
      exact (Option.some.inj hb) ▸ hr
    · cases ha
theorem All2.drop {α β : Type} {R : α → β → Prop} (n : Nat) {as : List α} {bs : List β} (h : All2 R as bs) : All2 R (as.drop n) (bs.drop n) :=
  All2.mk (by simp [h.len]) fun i a b ha hb => by
    rw [List.getElem?_drop] at ha hb
    obtain ⟨b', hb', hr⟩ := h.get ha
    rw [hb'] at hb
    exact (Option.some.inj hb) ▸ hr
theorem All2.set {α β : Type} {R : α → β → Prop} (n : Nat) {as : List α} {bs : List β} {a : α} {b : β} (h : All2 R as bs) (hr : R a b) : All2 R (as.set n a) (bs.set n b) :=
  All2.mk (by simp [h.len]) fun i x y hx hy => by
    rw [List.getElem?_set] at hx hy
    split at hx
    · rename_i he
      rw [if_pos he] at hy
      split at hx
      · split at hy
        · cases hx; cases hy; exact hr
        · cases hy
      · cases hx
    · rename_i he
      rw [if_neg he] at hy
      obtain ⟨b', hb', hr'⟩ := h.get hx
      rw [hb'] at hy
      exact (Option.some.inj hy) ▸ hr'

/-- Where the true ones are: the world, the block of each number, which numbers there are, what is known of blocks, which blocks are never written, the values that have names alone. -/
structure Cx where
  w : World
  mu : Nat → Nat
  A : Nat → Prop
  H : Hp
  Z : Nat → Prop
  S : Nat → Value

/-- A block that is there, and is never written. -/
def Cx.D (C : Cx) (k : Nat) : Prop := k < C.w.heap.size ∧ C.Z k

/-- Cells that are never written. -/
def ImmAt (C : Cx) (k off : Nat) (us : List Value) : Prop := C.D k ∧ ∀ (i : Nat) (u : Value), us[i]? = some u → C.w.cell? ⟨k, off + i, none⟩ = some u

/-- Maps, ints that have names. -/
structure HiR (C : Cx) (x : AV) (v : Value) : Prop where
  mp : x.t = 13 → v = .map (some (C.mu x.a)) ∧ C.A x.a
  int : x.t = 14 → v = C.S x.a ∧ ∃ n, v = .int .i64 n
  ub : x.t = 17 → ∃ b, v = .bool b
  le : x.t ≤ 14 ∨ x.t = 17
/-- The true value, so deep. -/
def Rep (C : Cx) : Nat → AV → Value → Prop
  | 0, _, _ => False
  | f + 1, x, v =>
    (x.t = 0 → v = x.v) ∧
    (x.t = 1 → ∃ us, v = .agg us ∧ All2 (Rep C f) x.ks us.toList) ∧
    (x.t = 2 → ∃ us, v = .tuple us ∧ All2 (Rep C f) x.ks us.toList) ∧
    (x.t = 3 → v = .pointer (some ⟨C.mu x.a, x.b, none⟩) ∧ C.A x.a ∧ ∃ cs ty, C.w.heap[C.mu x.a]? = some (.cells cs ty (0, 0))) ∧
    (x.t = 4 → ∃ k off us, v = .pointer (some ⟨k, off, none⟩) ∧ ImmAt C k off us ∧ All2 (Rep C f) x.ks us) ∧
    (x.t = 5 → ∃ cap cs ty, v = .slice (some ⟨C.mu x.a, x.b, none⟩) x.c cap ∧ C.A x.a ∧ x.c ≤ cap ∧ cap ≤ maxLen ∧ C.w.heap[C.mu x.a]? = some (.cells cs ty (0, 0)) ∧ x.b + cap * x.d ≤ cs.size) ∧
    (x.t = 6 → ∃ a cap, v = .slice a x.c cap) ∧
    (x.t = 7 → ∃ k off us, v = .slice (some ⟨k, off, none⟩) x.c x.c ∧ x.c ≤ maxLen ∧ us.length = x.c * x.d ∧ ImmAt C k off us ∧ All2 (Rep C f) x.ks us) ∧
    (x.t = 8 → ∃ k off us cap, v = .slice (some ⟨k, off, none⟩) x.c cap ∧ x.c ≤ cap ∧ cap ≤ maxLen ∧ us.length = x.c * x.d ∧ ImmAt C k off us ∧ All2 (Rep C f) x.ks us) ∧
    (x.t = 9 → ∃ g us vs, x.v = .func g #[] #[] ∧ v = .func g us vs ∧ All2 (Rep C f) (x.ks.take x.a) us.toList ∧ All2 (Rep C f) (x.ks.drop x.a) vs.toList) ∧
    (x.t = 10 → ∃ u, v = .iface x.a u ∧ All2 (Rep C f) x.ks [u]) ∧
    (x.t = 12 → v = C.S x.a) ∧
    (13 ≤ x.t → HiR C x v)

/-- Does a context go on from another one? -/
structure Cx.le (C C' : Cx) : Prop where
  A : ∀ a, C.A a → C'.A a
  mu : ∀ a, C.A a → C'.mu a = C.mu a
  size : C.w.heap.size ≤ C'.w.heap.size
  imm : ∀ k, C.D k → C'.D k ∧ C'.w.heap[k]? = C.w.heap[k]?
  shape : ∀ (k : Nat) cs ty fr, C.w.heap[k]? = some (.cells cs ty fr) → ∃ cs', C'.w.heap[k]? = some (.cells cs' ty fr) ∧ cs'.size = cs.size
  S : C'.S = C.S

theorem Cx.le.refl (C : Cx) : C.le C := ⟨fun _ h => h, fun _ _ => rfl, Nat.le_refl _, fun _ h => ⟨h, rfl⟩, fun _ cs _ _ h => ⟨cs, h, rfl⟩, rfl⟩
theorem Cx.le.trans {A B C : Cx} (h : A.le B) (g : B.le C) : A.le C where
  A a ha := g.A a (h.A a ha)
  mu a ha := (g.mu a (h.A a ha)).trans (h.mu a ha)
  size := Nat.le_trans h.size g.size
  imm k hk := by
    obtain ⟨h1, h2⟩ := h.imm k hk
    obtain ⟨g1, g2⟩ := g.imm k h1
    exact ⟨g1, g2.trans h2⟩
  shape k cs ty fr hk := by
    obtain ⟨cs1, h1, s1⟩ := h.shape k cs ty fr hk
    obtain ⟨cs2, h2, s2⟩ := g.shape k cs1 ty fr h1
    exact ⟨cs2, h2, s2.trans s1⟩
  S := g.S.trans h.S

theorem ImmAt.mono {C C' : Cx} (h : C.le C') {k off : Nat} {us : List Value} (g : ImmAt C k off us) : ImmAt C' k off us := by
  obtain ⟨h1, h2⟩ := h.imm k g.1
  exact ⟨h1, fun i u hu => by rw [World.cell?_of_block (w := C.w) h2]; exact g.2 i u hu⟩

theorem HiR.mono {C C' : Cx} (h : C.le C') {x : AV} {v : Value} (g : HiR C x v) : HiR C' x v :=
  ⟨fun e => ⟨by rw [h.mu _ (g.mp e).2]; exact (g.mp e).1, h.A _ (g.mp e).2⟩, fun e => ⟨by rw [h.S]; exact (g.int e).1, (g.int e).2⟩, g.ub, g.le⟩
theorem Rep.mono {C C' : Cx} (h : C.le C') : ∀ (f : Nat) (x : AV) (v : Value), Rep C f x v → Rep C' f x v
  | 0, _, _, g => g
  | f + 1, x, v, g => by
    have ih := Rep.mono h f
    obtain ⟨g0, g1, g2, g3, g4, g5, g6, g7, g8, g9, g10, g12, g11⟩ := g
    refine ⟨g0, fun e => ?_, fun e => ?_, fun e => ?_, fun e => ?_, fun e => ?_, g6, fun e => ?_, fun e => ?_, fun e => ?_, fun e => ?_, fun e => by rw [h.S]; exact g12 e, fun e => (g11 e).mono h⟩
    · obtain ⟨us, r, a⟩ := g1 e; exact ⟨us, r, a.imp ih⟩
    · obtain ⟨us, r, a⟩ := g2 e; exact ⟨us, r, a.imp ih⟩
    · obtain ⟨r, a, cs, ty, hb⟩ := g3 e
      obtain ⟨cs', hb', _⟩ := h.shape _ _ _ _ hb
      exact ⟨by rw [h.mu _ a]; exact r, h.A _ a, cs', ty, by rw [h.mu _ a]; exact hb'⟩
    · obtain ⟨k, off, us, r, i, a⟩ := g4 e; exact ⟨k, off, us, r, i.mono h, a.imp ih⟩
    · obtain ⟨cap, cs, ty, r, a, c1, c2, hb, hc⟩ := g5 e
      obtain ⟨cs', hb', hs'⟩ := h.shape _ _ _ _ hb
      exact ⟨cap, cs', ty, by rw [h.mu _ a]; exact r, h.A _ a, c1, c2, by rw [h.mu _ a]; exact hb', by rw [hs']; exact hc⟩
    · obtain ⟨k, off, us, r, c1, c2, i, a⟩ := g7 e; exact ⟨k, off, us, r, c1, c2, i.mono h, a.imp ih⟩
    · obtain ⟨k, off, us, cap, r, c1, c2, c3, i, a⟩ := g8 e; exact ⟨k, off, us, cap, r, c1, c2, c3, i.mono h, a.imp ih⟩
    · obtain ⟨gg, us, vs, r0, r, a, b⟩ := g9 e; exact ⟨gg, us, vs, r0, r, a.imp ih, b.imp ih⟩
    · obtain ⟨u, r, a⟩ := g10 e; exact ⟨u, r, a.imp ih⟩

theorem Rep.up {C : Cx} : ∀ (f : Nat) (x : AV) (v : Value), Rep C f x v → Rep C (f + 1) x v
  | 0, _, _, g => g.elim
  | f + 1, x, v, g => by
    have ih := Rep.up (C := C) f
    obtain ⟨g0, g1, g2, g3, g4, g5, g6, g7, g8, g9, g10, g12, g11⟩ := g
    refine ⟨g0, fun e => ?_, fun e => ?_, g3, fun e => ?_, g5, g6, fun e => ?_, fun e => ?_, fun e => ?_, fun e => ?_, g12, g11⟩
    · obtain ⟨us, r, a⟩ := g1 e; exact ⟨us, r, a.imp ih⟩
    · obtain ⟨us, r, a⟩ := g2 e; exact ⟨us, r, a.imp ih⟩
    · obtain ⟨k, off, us, r, i, a⟩ := g4 e; exact ⟨k, off, us, r, i, a.imp ih⟩
    · obtain ⟨k, off, us, r, c1, c2, i, a⟩ := g7 e; exact ⟨k, off, us, r, c1, c2, i, a.imp ih⟩
    · obtain ⟨k, off, us, cap, r, c1, c2, c3, i, a⟩ := g8 e; exact ⟨k, off, us, cap, r, c1, c2, c3, i, a.imp ih⟩
    · obtain ⟨gg, us, vs, r0, r, a, b⟩ := g9 e; exact ⟨gg, us, vs, r0, r, a.imp ih, b.imp ih⟩
    · obtain ⟨u, r, a⟩ := g10 e; exact ⟨u, r, a.imp ih⟩
theorem Rep.more {C : Cx} {f g : Nat} {x : AV} {v : Value} (h : Rep C f x v) (hl : f ≤ g) : Rep C g x v := by
  induction hl with
  | refl => exact h
  | step _ ih => exact Rep.up _ _ _ ih

/-- The true value. -/
def RV (C : Cx) (x : AV) (v : Value) : Prop := ∃ f, Rep C f x v
def RL (C : Cx) (xs : List AV) (vs : List Value) : Prop := All2 (RV C) xs vs

theorem RV.mono {C C' : Cx} (h : C.le C') {x : AV} {v : Value} (g : RV C x v) : RV C' x v := by
  obtain ⟨f, g⟩ := g
  exact ⟨f, Rep.mono h f x v g⟩
theorem RL.mono {C C' : Cx} (h : C.le C') {xs : List AV} {vs : List Value} (g : RL C xs vs) : RL C' xs vs := All2.imp (fun _ _ => RV.mono h) g
theorem RL.all {C : Cx} : ∀ {xs : List AV} {vs : List Value}, RL C xs vs → ∃ f, All2 (Rep C f) xs vs
  | [], [], _ => ⟨0, trivial⟩
  | _ :: _, _ :: _, h => by
    obtain ⟨f, hf⟩ := h.1
    obtain ⟨g, hg⟩ := RL.all h.2
    exact ⟨f + g, hf.more (by omega), hg.imp fun _ _ r => r.more (by omega)⟩
  | [], _ :: _, h => h.elim
  | _ :: _, [], h => h.elim
theorem RL.of {C : Cx} {f : Nat} {xs : List AV} {vs : List Value} (h : All2 (Rep C f) xs vs) : RL C xs vs := h.imp fun _ _ r => ⟨f, r⟩
#print axioms RL.of
end Go.Proofs.YthklnpkjlepagaaGreatDoor.Ab
