/- The operations that turn memory, that make structs and rows: made quick. -/
import Derived.Test.YthklnpkjlepagaaGreatDoorMQbaxQbd
namespace Go.Proofs.YthklnpkjlepagaaGreatDoor.Ab
open Go.RowKit
variable {S : Nat → Value}

def oneF (y : AV) : Bool := ifB (Nat.beq y.t 0) y.v.oneCell' (ifB (Nat.ble 3 y.t) (ifB (Nat.ble y.t 10) true (ifB (Nat.ble 13 y.t) (ifB (Nat.ble y.t 14) true (Nat.beq y.t 17)) false)) false)
theorem oneF_eq (y : AV) : oneF y = y.one := by
  unfold oneF AV.one
  rw [ifE, ifL, ifL, ifL, ifL]
  split
  · rfl
  · rw [Bool.eq_iff_iff]
    simp only [Bool.or_eq_true, decide_eq_true_eq]
    by_cases h : 3 ≤ y.t <;> by_cases h2 : y.t ≤ 10 <;> by_cases h3 : 13 ≤ y.t <;> by_cases h4 : y.t ≤ 14 <;> simp only [h, h2, h3, h4, if_true, if_false, reduceCtorEq, false_iff, true_iff, (show ∀ a b : Nat, Nat.beq a b = true ↔ a = b from fun a b => ⟨Nat.eq_of_beq_eq_true, fun e => e ▸ Nat.beq_refl a⟩)] <;> omega
/-- Is it one cell that can be stored? -/
def scal (y : AV) : Bool := ifB (Nat.beq y.t 0) (ifB (isAggV y.v) false y.v.oneCell') (ifB (Nat.ble 3 y.t) (ifB (Nat.ble y.t 10) true (ifB (Nat.ble 13 y.t) (ifB (Nat.ble y.t 14) true (Nat.beq y.t 17)) false)) false)
theorem scal_ok {y : AV} (h : scal y = true) : y.cells = some [y] ∧ y.one = true := by
  unfold scal at h
  rw [ifE, ifB_eq, ifL, ifL, ifL, ifL] at h
  unfold AV.cells AV.one
  split at h
  · rename_i h0
    rw [if_neg (by omega), if_neg (by omega), if_neg (by omega), if_pos h0, if_pos h0]
    split at h
    · cases h
    · rename_i ha
      rw [if_neg ha]
      exact ⟨rfl, h⟩
  · rename_i h0
    have h3 : 3 ≤ y.t ∧ (y.t ≤ 10 ∨ 13 ≤ y.t ∧ (y.t ≤ 14 ∨ y.t = 17)) := by
      split at h
      · rename_i h3
        split at h
        · rename_i h4; exact ⟨h3, Or.inl h4⟩
        · split at h
          · rename_i h5
            split at h
            · rename_i h6; exact ⟨h3, Or.inr ⟨h5, Or.inl h6⟩⟩
            · exact ⟨h3, Or.inr ⟨h5, Or.inr (Nat.eq_of_beq_eq_true h)⟩⟩
          · cases h
      · cases h
    rw [if_neg (by omega), if_neg (by omega), if_neg (by omega), if_neg h0, if_neg h0]
    refine ⟨rfl, ?_⟩
    simp only [Bool.or_eq_true, decide_eq_true_eq]
    omega
def cellsF (y : AV) : Option (List AV) := ifB (Nat.beq y.t 1) (some y.ks) (ifB (scal y) (some [y]) y.cells)
theorem cellsF_eq (y : AV) : cellsF y = y.cells := by
  unfold cellsF
  rw [ifE, ifB_eq]
  split
  · rename_i h; unfold AV.cells; rw [if_pos h]
  · split
    · rename_i h; exact (scal_ok h).1.symm
    · rfl

structure LbC where
  f : List AV → Bool
/-- Just so many, each of one cell. -/
def okC : Nat → LbC
  | 0 => ⟨fun l => List.casesOn l true fun _ _ => false⟩
  | n + 1 => ⟨fun l => List.casesOn l false fun a l' => ifB (oneF a) ((okC n).f l') false⟩
theorem okC_eq : ∀ (n : Nat) (l : List AV), (okC n).f l = (decide (l.length = n) && l.all AV.one)
  | 0, [] => rfl
  | 0, _ :: _ => by simp [okC]
  | _ + 1, [] => by simp [okC]
  | n + 1, a :: l => by
    show ifB (oneF a) ((okC n).f l) false = _
    rw [ifB_eq, oneF_eq, okC_eq n l]
    by_cases h : l.length = n <;> cases h1 : a.one <;> simp [h, h1]
def lenC : Nat → LbC
  | 0 => ⟨fun l => List.casesOn l true fun _ _ => false⟩
  | n + 1 => ⟨fun l => List.casesOn l false fun _ l' => (lenC n).f l'⟩
theorem lenC_eq : ∀ (n : Nat) (l : List AV), (lenC n).f l = decide (l.length = n)
  | 0, [] => rfl
  | 0, _ :: _ => by simp [lenC]
  | _ + 1, [] => by simp [lenC]
  | n + 1, a :: l => by
    show (lenC n).f l = _
    rw [lenC_eq n l]
    simp
structure L2C where
  f : List AV → List AV → List AV
/-- So many of one row, then another one. -/
def tkaC : Nat → L2C
  | 0 => ⟨fun _ r => r⟩
  | n + 1 => ⟨fun l r => List.casesOn l r fun a l' => a :: (tkaC n).f l' r⟩
theorem tkaC_eq : ∀ (n : Nat) (l r : List AV), (tkaC n).f l r = l.take n ++ r
  | 0, _, _ => rfl
  | _ + 1, [], _ => rfl
  | n + 1, a :: l, r => by show a :: (tkaC n).f l r = _; rw [tkaC_eq n l r]; rfl
def tkaF (n : Nat) (l r : List AV) : List AV := natL n fun n => (tkaC n).f l r
theorem tkaF_eq (n : Nat) (l r : List AV) : tkaF n l r = l.take n ++ r := by unfold tkaF; rw [natL_eq, tkaC_eq]
structure StC1 where
  f : AV → List AV → List AV
/-- One put anew. -/
def setC : Nat → StC1
  | 0 => ⟨fun y l => List.casesOn l [] fun _ l' => y :: l'⟩
  | n + 1 => ⟨fun y l => List.casesOn l [] fun a l' => a :: (setC n).f y l'⟩
theorem setC_eq : ∀ (n : Nat) (y : AV) (l : List AV), n + 1 ≤ l.length → (setC n).f y l = l.take n ++ [y] ++ l.drop (n + 1)
  | 0, _, _ :: _, _ => rfl
  | 0, _, [], h => by simp at h
  | _ + 1, _, [], h => by simp at h
  | n + 1, y, a :: l, h => by show a :: (setC n).f y l = _; rw [setC_eq n y l (by simpa using h)]; rfl
/-- A row put into another one. -/
def splC (k : Nat) : Nat → L2C
  | 0 => ⟨fun ks l => (tkaC k).f ks ((dropC k).f l)⟩
  | n + 1 => ⟨fun ks l => List.casesOn l [] fun a l' => a :: (splC k n).f ks l'⟩
theorem splC_eq (k : Nat) : ∀ (n : Nat) (ks l : List AV), ks.length = k → n + k ≤ l.length → (splC k n).f ks l = l.take n ++ ks ++ l.drop (n + ks.length)
  | 0, ks, l, h, _ => by
    show (tkaC k).f ks ((dropC k).f l) = _
    rw [tkaC_eq, dropC_eq, ← h, List.take_length]
    simp
  | n + 1, ks, [], h, h2 => by simp at h2 <;> omega
  | n + 1, ks, a :: l, h, h2 => by
    show a :: (splC k n).f ks l = _
    rw [splC_eq k n ks l h (by simp at h2; omega)]
    rw [show n + 1 + ks.length = (n + ks.length) + 1 by omega]
    rfl

structure StoC where
  f : Hp → Nat → AV → AV → Option Out
def stoC (T : Tabs) (t : Nat) : StoC := match T.tiAt t with
  | some ti => if ti.size = 1 then ⟨fun H n x y => ifB (scal y) (ifB (Nat.beq x.t 3) (opt (hpG H x.a) fun B => natL x.b fun b => ifB (long (Nat.succ b) B.cs) (some ⟨AV.ex undef, hpS H x.a (some ⟨B.ty, (setC b).f y B.cs⟩), n, bit1 x.a⟩) none) none) (xStore T H n t x y)⟩
    else ⟨fun H n x y => ifB (Nat.beq y.t 1) (ifB (Nat.beq x.t 3) (opt (hpG H x.a) fun B => natL x.b fun b => ifB ((okC ti.size).f y.ks) (ifB (long (Nat.add b ti.size) B.cs) (some ⟨AV.ex undef, hpS H x.a (some ⟨B.ty, (splC ti.size b).f y.ks B.cs⟩), n, bit1 x.a⟩) none) none) none) (xStore T H n t x y)⟩
  | none => ⟨fun _ _ _ _ => none⟩
theorem stoC_eq (T : Tabs) (t : Nat) (H : Hp) (n : Nat) (x y : AV) : (stoC T t).f H n x y = xStore T H n t x y := by
  unfold stoC
  cases h1 : T.tiAt t with
  | none => simp [xStore, h1]
  | some ti =>
    simp only
    split
    · rename_i hsz
      simp only [ifB_eq (scal y)]
      split
      · rename_i hs
        obtain ⟨s1, s2⟩ := scal_ok hs
        simp only [xStore, h1, s1, Option.bind_some, ifE, opt_eq, hpG_eq, hpS_eq, natL_eq]
        simp only [ifB_eq, long_eq]
        split
        · congr 1
          funext B
          have e : ([y] : List AV).length = ti.size := by rw [hsz]; rfl
          by_cases hl : Nat.succ x.b ≤ B.cs.length
          · rw [if_pos (decide_eq_true hl), if_pos ⟨e, by simp [s2], by simpa using hl⟩, setC_eq _ _ _ hl]
            rfl
          · rw [if_neg (by simpa using hl), if_neg (fun h => hl (by simpa using h.2.2))]
        · rfl
      · rfl
    · rename_i hsz
      simp only [ifE]
      split
      · rename_i hy
        have hc : y.cells = some y.ks := by unfold AV.cells; rw [if_pos hy]
        simp only [xStore, h1, hc, Option.bind_some, opt_eq, hpG_eq, hpS_eq, natL_eq]
        simp only [ifB_eq, long_eq, okC_eq]
        split
        · congr 1
          funext B
          by_cases hl : y.ks.length = ti.size ∧ y.ks.all AV.one = true ∧ x.b + y.ks.length ≤ B.cs.length
          · rw [if_pos hl, if_pos (by simp only [Bool.and_eq_true, decide_eq_true_eq]; exact ⟨hl.1, hl.2.1⟩), if_pos (decide_eq_true (by rw [← hl.1]; exact hl.2.2)), splC_eq _ _ _ _ hl.1 (by rw [← hl.1]; exact hl.2.2)]
          · rw [if_neg hl]
            split
            · rename_i h2
              simp only [Bool.and_eq_true, decide_eq_true_eq] at h2
              rw [if_neg]
              intro h3
              exact hl ⟨h2.1, h2.2, by rw [h2.1]; exact of_decide_eq_true h3⟩
            · rfl
        · rfl
      · rfl

/-- A new block. -/
def newF (H : Hp) (n t : Nat) (ks : List AV) : Out := natL n fun n => ⟨AV.ptr n 0, hpS H n (some ⟨t, ks⟩), Nat.succ n, 0⟩
theorem newF_eq (H : Hp) (n t : Nat) (ks : List AV) : newF H n t ks = xNew H n t ks := by
  unfold newF
  rw [natL_eq, hpS_eq]
  rfl

/-- A row's cells. -/
def rcF (H : Hp) (sz : Nat) (x : AV) : Option (Nat × List AV) := ifB (Nat.beq x.t 7) (ifB (Nat.beq x.d sz) (some (x.c, x.ks)) none) (rowCells H sz x)
theorem rcF_eq (H : Hp) (sz : Nat) (x : AV) : rcF H sz x = rowCells H sz x := by
  unfold rcF
  rw [ifE, ifE]
  by_cases h : x.t = 7
  · rw [if_pos h]
    unfold rowCells
    rw [if_neg (show ¬ x.t = 0 by omega)]
    by_cases hd : x.d = sz
    · rw [if_pos hd, if_pos hd, if_pos (Or.inl h)]
    · rw [if_neg hd, if_neg hd]
  · rw [if_neg h]
def allF : List AV → Bool
  | [] => true
  | a :: l => ifB (oneF a) (allF l) false
theorem allF_eq : ∀ (l : List AV), allF l = l.all AV.one
  | [] => rfl
  | a :: l => by
    show ifB (oneF a) (allF l) false = _
    rw [ifB_eq, oneF_eq, allF_eq l]
    cases h1 : a.one <;> simp [h1]
def nilS (x : AV) : Bool := match x.v with
  | .slice none 0 0 => true
  | _ => false
theorem nilS_eq (x : AV) {α : Type} (a b : α) : (ifB (nilS x) a b) = (match x.v with
  | .slice none 0 0 => a
  | _ => b) := by
  rw [ifB_eq]
  unfold nilS
  split <;> rfl
structure ApC where
  f : Hp → Nat → AV → AV → Option Out
def apC (T : Tabs) (t tx : Nat) : ApC := match T.tiAt t with
  | some ti => (match T.tiAt tx with
    | some tj => if ti.kind = 3 ∧ tj.kind = 3 then (match T.tiAt ti.elem with
      | some te => ⟨fun H n s x => opt (rcF H te.size x) fun p => ifB (allF p.2) (ifB (Nat.ble p.1 1000000)
          (ifB (Nat.beq s.t 0) (ifB (nilS s) (ifB (Nat.beq p.1 0) (some ⟨s, H, n, 0⟩) (ifB (Nat.ble (Nat.mul (Nat.mul 2 p.1) te.bytes) 281474976710656) (natL n fun n => some ⟨AV.sl n 0 p.1 te.size, hpS H n (some ⟨ti.elem, p.2⟩), Nat.succ n, 0⟩) none)) none)
            (ifB (ifB (Nat.beq p.1 0) (Nat.beq s.t 5 || (Nat.beq s.t 7 || Nat.beq s.t 8)) false) (some ⟨s, H, n, 0⟩)
              (ifB (ifB (Nat.ble s.c 1000000) (ifB (Nat.beq s.d te.size) (Nat.ble (Nat.mul (Nat.mul 2 (Nat.add s.c p.1)) te.bytes) 281474976710656) false) false)
                (ifB (Nat.beq s.t 7) (natL n fun n => some ⟨AV.sl n 0 (Nat.add s.c p.1) te.size, hpS H n (some ⟨ti.elem, s.ks ++ p.2⟩), Nat.succ n, 0⟩)
                  (ifB (ifB (Nat.beq s.t 5) (Nat.beq s.b 0) false) (opt (hpG H s.a) fun B => ifB (ifB (Nat.beq B.ty ti.elem) (long (Nat.mul s.c s.d) B.cs) false) (natL n fun n => some ⟨AV.sl n 0 (Nat.add s.c p.1) te.size, hpS (hpS H s.a none) n (some ⟨ti.elem, tkaF (Nat.mul s.c s.d) B.cs p.2⟩), Nat.succ n, bit1 s.a⟩) none) none)) none))) none) none⟩
      | none => ⟨fun _ _ _ _ => none⟩) else ⟨fun _ _ _ _ => none⟩
    | none => ⟨fun _ _ _ _ => none⟩)
  | none => ⟨fun _ _ _ _ => none⟩
theorem ifB_false {α : Type} (b c : Bool) (x y : α) : ifB (ifB b c false) x y = if b = true ∧ c = true then x else y := by
  cases b <;> cases c <;> simp [ifB]
theorem apC_eq (T : Tabs) (t tx : Nat) (H : Hp) (n : Nat) (s x : AV) : (apC T t tx).f H n s x = xAppend T H n t tx s x := by
  unfold apC
  cases h1 : T.tiAt t with
  | none => simp [xAppend, h1]
  | some ti =>
    simp only
    cases h2 : T.tiAt tx with
    | none => simp [xAppend, h1, h2]
    | some tj =>
      simp only
      split
      · rename_i hk
        cases h3 : T.tiAt ti.elem with
        | none => simp [xAppend, h1, h2, hk, h3]
        | some te =>
          simp only [xAppend, h1, h2, h3, Option.bind_some, if_pos hk, opt_eq, rcF_eq]
          congr 1
          funext p
          have e0 : ∀ {α : Type} (a b : α), ifB (allF p.2) (ifB (Nat.ble p.1 1000000) a b) b = if p.2.all AV.one = true ∧ p.1 ≤ 1000000 then a else b := by
            intro α a b
            rw [ifB_eq, ifL, allF_eq]
            by_cases h1 : p.2.all AV.one = true <;> by_cases h2 : p.1 ≤ 1000000 <;> simp [h1, h2]
          rw [e0]
          have e1 : ∀ {α : Type} (a b : α), ifB (ifB (Nat.beq p.1 0) (Nat.beq s.t 5 || (Nat.beq s.t 7 || Nat.beq s.t 8)) false) a b = if (s.t = 5 ∨ s.t = 7 ∨ s.t = 8) ∧ p.1 = 0 then a else b := by
            intro α a b
            rw [ifB_false, beq_dec, beq_dec, beq_dec, beq_dec]
            simp only [Bool.or_eq_true, decide_eq_true_eq, and_comm]
          have e2 : ∀ {α : Type} (a b : α), ifB (ifB (Nat.ble s.c 1000000) (ifB (Nat.beq s.d te.size) (Nat.ble (Nat.mul (Nat.mul 2 (Nat.add s.c p.1)) te.bytes) 281474976710656) false) false) a b = if s.c ≤ 1000000 ∧ s.d = te.size ∧ 2 * (s.c + p.1) * te.bytes ≤ 281474976710656 then a else b := by
            intro α a b
            rw [ifB_false, ifB_eq, beq_dec, ble_dec, ble_dec]
            by_cases h2 : s.d = te.size <;> simp [h2] <;> rfl
          have e3 : ∀ {α : Type} (a b : α), ifB (ifB (Nat.beq s.t 5) (Nat.beq s.b 0) false) a b = if s.t = 5 ∧ s.b = 0 then a else b := by
            intro α a b
            rw [ifB_false, beq_dec, beq_dec]
            simp only [decide_eq_true_eq]
          have e4 : ∀ (B : Blk) {α : Type} (a b : α), ifB (ifB (Nat.beq B.ty ti.elem) (long (Nat.mul s.c s.d) B.cs) false) a b = if B.ty = ti.elem ∧ s.c * s.d ≤ B.cs.length then a else b := by
            intro B α a b
            rw [ifB_false, beq_dec, long_eq]
            simp only [decide_eq_true_eq]
            rfl
          simp only [e1, e2, e3, e4]
          simp only [ifE, ifL, natL_eq, nilS_eq, hpG_eq, hpS_eq, tkaF_eq]
          split
          · split
            · rfl
            · split
              · rfl
              · split
                · split
                  · rfl
                  · split
                    · cases H.get s.a with
                      | none => rfl
                      | some B => rfl
                    · rfl
                · rfl
          · rfl
      · rename_i hk
        simp only [xAppend, h1, h2, Option.bind_some, if_neg hk]
#print axioms apC_eq
end Go.Proofs.YthklnpkjlepagaaGreatDoor.Ab
