/- Regions that draw their order: one order is reckoned, and what is asked for it to stand for all. -/
import Derived.Test.YthklnpkjlepagaaGreatDoorMQjxQk
namespace Go.Proofs.YthklnpkjlepagaaGreatDoor.Ab
open Go.RowKit
variable {S : Nat → Value}

/-- What an operation of such a region came to: whether it was wanted, its value, the blocks that it turned (in res), the blocks that it looked at (none: any), the numbers ahead, behind; wt: cells of a block that it has loaded though another one writes to the block (they must stay). -/
structure Ent where
  o : Oper
  b : Bool
  x : AV
  asg : List Nat
  res : Hp
  ts : Option (List Nat)
  n0 : Nat
  n1 : Nat
  wt : Option (Nat × Nat × List AV)

def asgH (H : Hp) (l : List Nat) (res : Hp) : Hp := l.foldl (fun h b => h.set b (res.get b)) H
theorem asgH_get : ∀ (l : List Nat) (H res : Hp) (b : Nat), (asgH H l res).get b = if b ∈ l then res.get b else H.get b
  | [], _, _, _ => by simp [asgH]
  | a :: l, H, res, b => by
    have ih := asgH_get l (H.set a (res.get a)) res b
    show (asgH (H.set a (res.get a)) l res).get b = _
    rw [ih]
    by_cases h : b ∈ l
    · rw [if_pos h, if_pos (List.mem_cons_of_mem _ h)]
    · rw [if_neg h, Hp.get_set]
      by_cases e : a = b
      · subst e; simp
      · rw [if_neg e, if_neg (by simp; exact ⟨fun e' => e e'.symm, h⟩)]

def eraseH (H : Hp) (l : List Nat) : Hp := l.foldl (fun h b => h.set b none) H
theorem eraseH_get : ∀ (l : List Nat) (H : Hp) (b : Nat), (eraseH H l).get b = if b ∈ l then none else H.get b
  | [], _, _ => by simp [eraseH]
  | a :: l, H, b => by
    have ih := eraseH_get l (H.set a none) b
    show (eraseH (H.set a none) l).get b = _
    rw [ih]
    by_cases h : b ∈ l
    · rw [if_pos h, if_pos (List.mem_cons_of_mem _ h)]
    · rw [if_neg h, Hp.get_set]
      by_cases e : a = b
      · subst e; simp
      · rw [if_neg e, if_neg (by simp; exact ⟨fun e' => e e'.symm, h⟩)]
def restrH (H : Hp) (l : List Nat) : Hp := asgH Hp.emp l H
theorem restrH_get (H : Hp) (l : List Nat) (b : Nat) : (restrH H l).get b = if b ∈ l then H.get b else none := by
  unfold restrH
  rw [asgH_get, emp_get]

/-- The numbers that bits name: halves, and halves of them, wherever there are any. -/
def bitsK : Nat → Nat → Nat → List Nat
  | 0, lo, m => Nat.casesOn (Nat.mod m 2) [] fun _ => [lo]
  | k + 1, lo, m => Nat.casesOn m [] fun p => bitsK k lo (Nat.mod (Nat.succ p) (Nat.pow 2 (Nat.pow 2 k))) ++ bitsK k (Nat.add lo (Nat.pow 2 k)) (Nat.shiftRight (Nat.succ p) (Nat.pow 2 k))
theorem mem_bitsK : ∀ (k lo m b : Nat), m < 2 ^ (2 ^ k) → (b ∈ bitsK k lo m ↔ lo ≤ b ∧ m.testBit (b - lo) = true)
  | 0, lo, m, b, h => by
    have h : m < 2 := h
    rcases (show m = 0 ∨ m = 1 by omega) with rfl | rfl
    · show b ∈ ([] : List Nat) ↔ _
      simp
    · show b ∈ [lo] ↔ _
      rw [List.mem_singleton]
      constructor
      · rintro rfl
        simp
      · rintro ⟨h1, h2⟩
        have : b - lo = 0 := by
          rcases Nat.eq_zero_or_pos (b - lo) with h0 | h0
          · exact h0
          · rw [Nat.testBit_lt_two_pow (show 1 < 2 ^ (b - lo) from Nat.one_lt_two_pow (by omega))] at h2
            cases h2
        omega
  | k + 1, lo, 0, b, _ => by
    show b ∈ ([] : List Nat) ↔ _
    simp
  | k + 1, lo, p + 1, b, h => by
    show b ∈ bitsK k lo ((p + 1) % 2 ^ (2 ^ k)) ++ bitsK k (lo + 2 ^ k) ((p + 1) >>> (2 ^ k)) ↔ _
    have h1 : (p + 1) % 2 ^ (2 ^ k) < 2 ^ (2 ^ k) := Nat.mod_lt _ (Nat.two_pow_pos _)
    have h2 : (p + 1) >>> (2 ^ k) < 2 ^ (2 ^ k) := by
      rw [Nat.shiftRight_eq_div_pow]
      refine Nat.div_lt_of_lt_mul ?_
      rw [← Nat.pow_add]
      have e : 2 ^ k + 2 ^ k = 2 ^ (k + 1) := by rw [Nat.pow_succ]; omega
      rw [e]
      exact h
    rw [List.mem_append, mem_bitsK k _ _ b h1, mem_bitsK k _ _ b h2, Nat.testBit_mod_two_pow, Nat.testBit_shiftRight]
    clear h h1 h2
    generalize 2 ^ k = q
    constructor
    · rintro (⟨h3, h4⟩ | ⟨h3, h4⟩)
      · simp only [Bool.and_eq_true, decide_eq_true_eq] at h4
        exact ⟨h3, h4.2⟩
      · refine ⟨by omega, ?_⟩
        rwa [show q + (b - (lo + q)) = b - lo by omega] at h4
    · rintro ⟨h3, h4⟩
      rcases Nat.lt_or_ge (b - lo) q with h5 | h5
      · exact Or.inl ⟨h3, by simp [h5, h4]⟩
      · refine Or.inr ⟨by omega, ?_⟩
        rwa [show q + (b - (lo + q)) = b - lo by omega]
def bitsO (m : Nat) : List Nat := (List.range (m.log2 + 1)).filter fun b => m.testBit b
def bitsT (K m : Nat) : List Nat := Nat.casesOn (Nat.shiftRight m (Nat.pow 2 K)) (bitsK K 0 m) fun _ => bitsO m
def bitsL (m : Nat) : List Nat := bitsT 16 m
theorem mem_bitsO {m b : Nat} : b ∈ bitsO m ↔ m.testBit b = true := by
  unfold bitsO
  rw [List.mem_filter, List.mem_range]
  refine ⟨fun h => h.2, fun h => ⟨?_, h⟩⟩
  have h1 := Nat.ge_two_pow_of_testBit h
  have h0 : m ≠ 0 := fun e => by rw [e] at h; simp at h
  have := (Nat.le_log2 h0).2 h1
  omega
theorem mem_bitsT {K m b : Nat} : b ∈ bitsT K m ↔ m.testBit b = true := by
  unfold bitsT
  cases h : Nat.shiftRight m (Nat.pow 2 K) with
  | zero =>
    show b ∈ bitsK K 0 m ↔ _
    have h : m >>> (2 ^ K) = 0 := h
    have hlt : m < 2 ^ (2 ^ K) := by
      rw [Nat.shiftRight_eq_div_pow] at h
      rcases Nat.lt_or_ge m (2 ^ (2 ^ K)) with h9 | h9
      · exact h9
      · have := Nat.div_pos h9 (Nat.two_pow_pos _)
        rw [h] at this
        exact absurd this (Nat.lt_irrefl 0)
    rw [mem_bitsK K 0 m b hlt]
    simp
  | succ k => exact mem_bitsO
theorem mem_bitsL {m b : Nat} : b ∈ bitsL m ↔ m.testBit b = true := mem_bitsT

/-- What an operation does at most: 0 it looks at no memory; 1 it looks; 2 it makes new blocks; 3 all. -/
def kindOf (o : Oper) : Nat := match o.op with
  | .move _ | .assign _ | .pick .. | .build .. | .nilCheck _ | .binOp .. | .unOp .. | .makeInterface .. | .makeFunc .. | .fieldAddr .. | .field .. | .indexAddr .. | .index .. | .sliceToArrayPointer .. | .extract .. => 0
  | .load .. | .convert .. | .slice .. | .lookup .. => 1
  | .alloc _ | .box .. | .makeSlice .. | .makeMap .. | .buildSlice .. => 2
  | .call c => match c.callee with
    | .builtin .len => 0
    | _ => 3
  | _ => 3

def idM (x : AV) : Nat := if x.t = 3 ∨ x.t = 5 then bit1 x.a else 0
def idP (x : AV) : Nat := if x.t = 13 then bit1 x.a else 0
theorem idP_bit {x : AV} (h : x.t = 13) : (idP x).testBit x.a = true := by
  unfold idP
  rw [if_pos h]
  exact bit1_iff.2 rfl
/-- The blocks that an operation looks at. -/
def touchM (T : Tabs) (fr : Fr) (o : Oper) : Nat := match o.op with
  | .load _ a => idM (evO T fr a)
  | .store _ a _ => idM (evO T fr a)
  | .slice _ x _ _ _ => idM (evO T fr x)
  | .convert _ _ x => idM (evO T fr x)
  | .lookup _ m _ _ => idP (evO T fr m)
  | .mapUpdate _ m _ _ => idP (evO T fr m)
  | .insert _ m _ _ => idP (evO T fr m)
  | .call c => match c.callee with
    | .builtin .len => 0
    | _ => c.args.toList.foldr (fun x m => idM (evO T fr x) ||| m) 0
  | _ => 0
theorem idM_bit {x : AV} (h : x.t = 3 ∨ x.t = 5) : (idM x).testBit x.a = true := by
  unfold idM
  rw [if_pos h]
  exact bit1_iff.2 rfl
theorem args_bit {T : Tabs} {fr : Fr} : ∀ {l : List Operand} {x : Operand} {b : Nat}, x ∈ l → (idM (evO T fr x)).testBit b = true → (l.foldr (fun x m => idM (evO T fr x) ||| m) 0).testBit b = true
  | y :: l, x, b, h, hb => by
    simp only [List.foldr_cons, Nat.testBit_or, Bool.or_eq_true]
    rcases List.mem_cons.1 h with rfl | h
    · exact Or.inl hb
    · exact Or.inr (args_bit h hb)

theorem callee_kind {T : Tabs} {fr : Fr} {o : Oper} (h : kindOf o ≤ 2) : calleeOf T fr o = none := by
  unfold kindOf at h
  unfold calleeOf
  split <;> try rfl
  rename_i c ho
  rw [ho] at h
  simp only at h
  split <;> try rfl
  rename_i f hf
  rw [hf] at h
  simp at h

/-- Of what kind it is tells what it turns. -/
theorem sop_kind {P : Program} {T : Tabs} {H : Hp} {n : Nat} {fr : Fr} {o : Oper} {out : Out} (hk : kindOf o ≤ 2) (e : sop P T H n fr o = some out) : out.wr = 0 ∧ (kindOf o ≤ 1 → out.n = n) := by
  unfold kindOf at hk ⊢
  unfold sop at e
  cases ho : o.op <;> simp only [ho] at hk e ⊢ <;> first
    | (simp at hk; done)
    | (cases e; exact ⟨rfl, fun _ => rfl⟩)
    | (obtain ⟨y, _, rfl⟩ := Option.map_eq_some_iff.1 e; exact ⟨rfl, fun _ => rfl⟩)
    | (obtain ⟨y, _, rfl⟩ := Option.map_eq_some_iff.1 e; exact ⟨rfl, fun h => absurd h (by decide)⟩)
    | (obtain ⟨v, _, e⟩ := Option.bind_eq_some_iff.1 e; obtain ⟨y, _, rfl⟩ := Option.map_eq_some_iff.1 e; exact ⟨rfl, fun _ => rfl⟩)
    | (obtain ⟨v, _, e⟩ := Option.bind_eq_some_iff.1 e; split at e <;> cases e; exact ⟨rfl, fun _ => rfl⟩)
    | (split at e <;> obtain ⟨y, _, rfl⟩ := Option.map_eq_some_iff.1 e <;> exact ⟨rfl, fun _ => rfl⟩)
    | skip
  case buildSlice =>
    obtain ⟨y, _, h⟩ := Option.map_eq_some_iff.1 e
    split at h <;> cases h <;> exact ⟨rfl, fun h => absurd h (by decide)⟩
  case makeMap t r =>
    cases r with
    | none => cases e; exact ⟨rfl, fun h => absurd h (by decide)⟩
    | some r => cases e
  case makeSlice =>
    unfold xMake at e
    obtain ⟨ti, _, e⟩ := Option.bind_eq_some_iff.1 e
    split at e
    · obtain ⟨te, _, e⟩ := Option.bind_eq_some_iff.1 e
      obtain ⟨i, _, e⟩ := Option.bind_eq_some_iff.1 e
      obtain ⟨j, _, e⟩ := Option.bind_eq_some_iff.1 e
      split at e
      · cases e
        exact ⟨rfl, fun h => absurd h (by decide)⟩
      · cases e
    · cases e
  case slice t x lo hi mx =>
    cases mx with
    | none => obtain ⟨y, _, rfl⟩ := Option.map_eq_some_iff.1 e; exact ⟨rfl, fun _ => rfl⟩
    | some m => cases e
  case call c =>
    cases hc : c.callee with
    | value f => simp [hc] at hk
    | invoke r m => simp [hc] at hk
    | builtin b =>
      simp only [hc] at hk e ⊢
      cases b <;> simp only at hk e ⊢ <;> first
        | (simp at hk; done)
        | skip
      split at e
      · obtain ⟨y, _, rfl⟩ := Option.map_eq_some_iff.1 e; exact ⟨rfl, fun _ => rfl⟩
      · cases e

/-- Out of two memories that agree where it looks an operation comes to the same. -/
def OutL (n : Nat) (out out' : Out) : Prop := out'.x = out.x ∧ out'.n = out.n ∧ out'.wr = out.wr ∧ ∀ b, (out.wr.testBit b = true ∨ (n ≤ b ∧ b < out.n)) → out'.H.get b = out.H.get b
theorem outL_same {n : Nat} {x : AV} {H H' : Hp} : OutL n ⟨x, H, n, 0⟩ ⟨x, H', n, 0⟩ := ⟨rfl, rfl, rfl, fun b hb => by
  rcases hb with h | h
  · exact no_bit h
  · exact absurd h (by simp only; omega)⟩
theorem outL_new {n : Nat} {x : AV} {H H' : Hp} {B : Option Blk} : OutL n ⟨x, H.set n B, n + 1, 0⟩ ⟨x, H'.set n B, n + 1, 0⟩ := ⟨rfl, rfl, rfl, fun b hb => by
  rcases hb with h | h
  · exact no_bit h
  · have h : n ≤ b ∧ b < n + 1 := h
    have : b = n := by omega
    subst this
    simp only [Hp.get_same]⟩
theorem outL_put {n a : Nat} {x : AV} {H H' : Hp} {B : Option Blk} : OutL n ⟨x, H.set a B, n, bit1 a⟩ ⟨x, H'.set a B, n, bit1 a⟩ := ⟨rfl, rfl, rfl, fun b hb => by
  rcases hb with h | h
  · rw [bit1_iff.1 h]
    simp only [Hp.get_same]
  · exact absurd h (by simp only; omega)⟩
theorem outL_home {n a : Nat} {x : AV} {H H' : Hp} {B : Option Blk} : OutL n ⟨x, (H.set a none).set n B, n + 1, bit1 a⟩ ⟨x, (H'.set a none).set n B, n + 1, bit1 a⟩ := ⟨rfl, rfl, rfl, fun b hb => by
  simp only [Hp.get_set]
  rcases hb with h | h
  · rw [bit1_iff.1 h, if_pos rfl, if_pos rfl]
  · have h : n ≤ b ∧ b < n + 1 := h
    have : b = n := by omega
    subst this
    rw [if_pos rfl, if_pos rfl]⟩
theorem ptrCells_local {H H' : Hp} {x : AV} (h : (x.t = 3 ∨ x.t = 5) → H'.get x.a = H.get x.a) : ptrCells H' x = ptrCells H x := by
  unfold ptrCells
  split
  · rfl
  · split
    · rename_i h3; rw [h (Or.inl h3)]
    · rfl
theorem rowCells_local {H H' : Hp} {sz : Nat} {x : AV} (h : (x.t = 3 ∨ x.t = 5) → H'.get x.a = H.get x.a) : rowCells H' sz x = rowCells H sz x := by
  unfold rowCells
  by_cases h5 : x.t = 5
  · rw [h (Or.inr h5)]
  · simp only [if_neg h5]
theorem xStore_local {T : Tabs} {H H' : Hp} {n t : Nat} {x y : AV} {o : Out} (hH : (x.t = 3 ∨ x.t = 5) → H'.get x.a = H.get x.a) (e : xStore T H n t x y = some o) : ∃ o', xStore T H' n t x y = some o' ∧ OutL n o o' := by
  unfold xStore at e ⊢
  obtain ⟨ti, h1, e⟩ := Option.bind_eq_some_iff.1 e
  obtain ⟨ks, h2, e⟩ := Option.bind_eq_some_iff.1 e
  rw [h1, Option.bind_some, h2, Option.bind_some]
  split at e
  · rename_i h3
    rw [if_pos h3]
    obtain ⟨B, hB, e⟩ := Option.bind_eq_some_iff.1 e
    rw [hH (Or.inl h3), hB, Option.bind_some]
    split at e
    · rename_i hc
      cases e
      rw [if_pos hc]
      exact ⟨_, rfl, outL_put⟩
    · cases e
  · cases e
theorem xMapPut_local {T : Tabs} {H H' : Hp} {n t : Nat} {m k x : AV} {o : Out} (hH : m.t = 13 → H'.get m.a = H.get m.a) (e : xMapPut T H n t m k x = some o) : ∃ o', xMapPut T H' n t m k x = some o' ∧ OutL n o o' := by
  unfold xMapPut at e ⊢
  obtain ⟨ti, h1, e⟩ := Option.bind_eq_some_iff.1 e
  rw [h1, Option.bind_some]
  split at e
  · rename_i k10
    rw [if_pos k10]
    obtain ⟨tk, h2, e⟩ := Option.bind_eq_some_iff.1 e
    rw [h2, Option.bind_some]
    split at e
    · rename_i k5
      rw [if_pos k5]
      obtain ⟨s, h3, e⟩ := Option.bind_eq_some_iff.1 e
      obtain ⟨p, h4, e⟩ := Option.bind_eq_some_iff.1 e
      rw [h3, Option.bind_some, mapOf_local hH, h4, Option.bind_some]
      obtain ⟨z, h5, rfl⟩ := Option.map_eq_some_iff.1 e
      rw [h5]
      exact ⟨_, rfl, outL_put⟩
    · cases e
  · cases e
theorem xCopy_local {T : Tabs} {H H' : Hp} {n t : Nat} {d x : AV} {o : Out} (hd : (d.t = 3 ∨ d.t = 5) → H'.get d.a = H.get d.a) (hx : (x.t = 3 ∨ x.t = 5) → H'.get x.a = H.get x.a) (e : xCopy T H n t d x = some o) : ∃ o', xCopy T H' n t d x = some o' ∧ OutL n o o' := by
  unfold xCopy at e ⊢
  obtain ⟨ti, h1, e⟩ := Option.bind_eq_some_iff.1 e
  rw [h1, Option.bind_some]
  split at e
  · rename_i k3
    rw [if_pos k3]
    obtain ⟨te, h2, e⟩ := Option.bind_eq_some_iff.1 e
    obtain ⟨p, h3, e⟩ := Option.bind_eq_some_iff.1 e
    rw [h2, Option.bind_some, rowCells_local hx, h3, Option.bind_some]
    split at e
    · rename_i hc
      rw [if_pos hc]
      obtain ⟨B, hB, e⟩ := Option.bind_eq_some_iff.1 e
      rw [hd (Or.inr hc.2.1), hB, Option.bind_some]
      split at e
      · rename_i hc2
        cases e
        rw [if_pos hc2]
        exact ⟨_, rfl, outL_put⟩
      · cases e
    · cases e
  · cases e
theorem xAppend_local {T : Tabs} {H H' : Hp} {n t tx : Nat} {s x : AV} {o : Out} (hs : (s.t = 3 ∨ s.t = 5) → H'.get s.a = H.get s.a) (hx : (x.t = 3 ∨ x.t = 5) → H'.get x.a = H.get x.a) (e : xAppend T H n t tx s x = some o) : ∃ o', xAppend T H' n t tx s x = some o' ∧ OutL n o o' := by
  unfold xAppend at e ⊢
  obtain ⟨ti, h1, e⟩ := Option.bind_eq_some_iff.1 e
  obtain ⟨tj, h2, e⟩ := Option.bind_eq_some_iff.1 e
  rw [h1, Option.bind_some, h2, Option.bind_some]
  split at e
  · rename_i k3
    rw [if_pos k3]
    obtain ⟨te, h3, e⟩ := Option.bind_eq_some_iff.1 e
    obtain ⟨p, h4, e⟩ := Option.bind_eq_some_iff.1 e
    rw [h3, Option.bind_some, rowCells_local hx, h4, Option.bind_some]
    split at e
    · rename_i hc
      rw [if_pos hc]
      split at e
      · rename_i h0
        rw [if_pos h0]
        split at e
        · rename_i hv
          split at e
          · rename_i hp
            cases e
            simp only [if_pos hp]
            exact ⟨_, rfl, outL_same⟩
          · rename_i hp
            split at e
            · rename_i hb
              cases e
              simp only [if_neg hp, if_pos hb]
              exact ⟨_, rfl, outL_new⟩
            · cases e
        · cases e
      · rename_i h0
        rw [if_neg h0]
        split at e
        · rename_i h7
          cases e
          rw [if_pos h7]
          exact ⟨_, rfl, outL_same⟩
        · rename_i h7
          rw [if_neg h7]
          split at e
          · rename_i hb
            rw [if_pos hb]
            split at e
            · rename_i h9
              cases e
              rw [if_pos h9]
              exact ⟨_, rfl, outL_new⟩
            · rename_i h9
              rw [if_neg h9]
              split at e
              · rename_i h5
                rw [if_pos h5, hs (Or.inr h5.1)]
                split at e
                · rename_i B hB
                  split at e
                  · rename_i hc2
                    cases e
                    simp only [if_pos hc2]
                    exact ⟨_, rfl, outL_home⟩
                  · cases e
                · cases e
              · cases e
          · cases e
    · cases e
  · cases e

theorem sop_local {P : Program} {T : Tabs} {H H' : Hp} {n : Nat} {fr : Fr} {o : Oper} {out : Out} (hH : ∀ b, (touchM T fr o).testBit b = true → H'.get b = H.get b) (e : sop P T H n fr o = some out) : ∃ out', sop P T H' n fr o = some out' ∧ OutL n out out' := by
  unfold sop at e ⊢
  unfold touchM at hH
  cases ho : o.op <;> simp only [ho] at e hH ⊢ <;> first
    | (cases e; exact ⟨_, rfl, outL_same⟩)
    | (obtain ⟨y, h1, rfl⟩ := Option.map_eq_some_iff.1 e; exact ⟨_, by rw [h1]; rfl, outL_same⟩)
    | (obtain ⟨y, h1, rfl⟩ := Option.map_eq_some_iff.1 e; exact ⟨_, by rw [h1]; rfl, outL_new⟩)
    | (obtain ⟨v, h1, e⟩ := Option.bind_eq_some_iff.1 e; obtain ⟨y, h2, rfl⟩ := Option.map_eq_some_iff.1 e; exact ⟨_, by rw [h1, Option.bind_some, h2]; rfl, outL_same⟩)
    | (cases e; done)
    | skip
  case buildSlice =>
    obtain ⟨y, h1, h⟩ := Option.map_eq_some_iff.1 e
    refine ⟨_, by unfold xBuildSlice; rw [h1]; rfl, ?_⟩
    split at h <;> rename_i hr <;> cases h
    · simp only [if_pos hr]; exact outL_new
    · simp only [if_neg hr]; exact outL_same
  case load t x =>
    obtain ⟨y, h1, rfl⟩ := Option.map_eq_some_iff.1 e
    have : xLoad T H' t (evO T fr x) = xLoad T H t (evO T fr x) := by
      unfold xLoad
      rw [ptrCells_local fun h3 => hH _ (idM_bit h3)]
    exact ⟨_, by rw [this, h1]; rfl, outL_same⟩
  case store t x y => exact xStore_local (fun h3 => hH _ (idM_bit h3)) e
  case makeMap t r =>
    cases r with
    | none => cases e; exact ⟨_, rfl, outL_new⟩
    | some r => cases e
  case lookup t m k ok =>
    obtain ⟨y, h1, rfl⟩ := Option.map_eq_some_iff.1 e
    have : xMapGet P T H' t (evO T fr m) (evO T fr k) ok = xMapGet P T H t (evO T fr m) (evO T fr k) ok := by
      unfold xMapGet
      rw [mapOf_local fun h3 => hH _ (idP_bit h3)]
    exact ⟨_, by rw [this, h1]; rfl, outL_same⟩
  case mapUpdate t m k x => exact xMapPut_local (fun h3 => hH _ (idP_bit h3)) e
  case insert t m k x => exact xMapPut_local (fun h3 => hH _ (idP_bit h3)) e
  case convert s d x =>
    split at e
    · rename_i v h1
      obtain ⟨r, h2, rfl⟩ := Option.map_eq_some_iff.1 e
      exact ⟨_, by simp only [h2]; rfl, outL_same⟩
    · rename_i h1
      obtain ⟨r, h2, rfl⟩ := Option.map_eq_some_iff.1 e
      have : xBytes P T H' s d (evO T fr x) = xBytes P T H s d (evO T fr x) := by
        unfold xBytes
        rw [rowCells_local fun h3 => hH _ (idM_bit h3)]
      exact ⟨_, by simp only [this, h2]; rfl, outL_same⟩
  case makeInterface t x =>
    obtain ⟨ti, h1, e⟩ := Option.bind_eq_some_iff.1 e
    rw [h1, Option.bind_some]
    split at e
    · cases e
    · rename_i hk
      cases e
      rw [if_neg hk]
      exact ⟨_, rfl, outL_same⟩
  case makeSlice t l c =>
    unfold xMake at e ⊢
    obtain ⟨ti, h1, e⟩ := Option.bind_eq_some_iff.1 e
    rw [h1, Option.bind_some]
    split at e
    · rename_i k3
      rw [if_pos k3]
      obtain ⟨te, h2, e⟩ := Option.bind_eq_some_iff.1 e
      obtain ⟨i, h3, e⟩ := Option.bind_eq_some_iff.1 e
      obtain ⟨j, h4, e⟩ := Option.bind_eq_some_iff.1 e
      rw [h2, Option.bind_some, h3, Option.bind_some, h4, Option.bind_some]
      split at e
      · rename_i hc
        cases e
        rw [if_pos hc]
        exact ⟨_, rfl, outL_new⟩
      · cases e
    · cases e
  case slice t x lo hi mx =>
    cases mx with
    | some m => cases e
    | none =>
      obtain ⟨y, h1, rfl⟩ := Option.map_eq_some_iff.1 e
      have : xSliceA T H' t (evO T fr x) (lo.map (evO T fr)) (hi.map (evO T fr)) = xSliceA T H t (evO T fr x) (lo.map (evO T fr)) (hi.map (evO T fr)) := by
        unfold xSliceA
        cases lo <;> cases hi <;> simp only [Option.map_none, Option.map_some]
        by_cases h3 : (evO T fr x).t = 3
        · rw [hH _ (idM_bit (Or.inl h3))]
        · simp only [h3, and_false, if_false]
      exact ⟨_, by simp only [this, h1]; rfl, outL_same⟩
  case call c =>
    cases hc : c.callee with
    | value f => simp [hc] at e
    | invoke r m => simp [hc] at e
    | builtin b =>
      simp only [hc] at e hH ⊢
      cases b <;> simp only at e hH ⊢ <;> first
        | (cases e; done)
        | skip
      case len =>
        split at e
        · obtain ⟨y, h1, rfl⟩ := Option.map_eq_some_iff.1 e
          exact ⟨_, by simp only [h1]; rfl, outL_same⟩
        · cases e
      case append =>
        split at e
        · rename_i t tx s x hat har
          exact xAppend_local (fun h3 => hH _ (args_bit (x := s) (by rw [har]; simp) (idM_bit h3))) (fun h3 => hH _ (args_bit (x := x) (by rw [har]; simp) (idM_bit h3))) e
        · cases e
      case copy =>
        split at e
        · rename_i t tx d x hat har
          exact xCopy_local (fun h3 => hH _ (args_bit (x := d) (by rw [har]; simp) (idM_bit h3))) (fun h3 => hH _ (args_bit (x := x) (by rw [har]; simp) (idM_bit h3))) e
        · cases e
      case max =>
        obtain ⟨vs, h1, e⟩ := Option.bind_eq_some_iff.1 e
        obtain ⟨r, h2, rfl⟩ := Option.map_eq_some_iff.1 e
        exact ⟨_, by rw [h1, Option.bind_some, h2]; rfl, outL_same⟩
      case min =>
        obtain ⟨vs, h1, e⟩ := Option.bind_eq_some_iff.1 e
        obtain ⟨r, h2, rfl⟩ := Option.map_eq_some_iff.1 e
        exact ⟨_, by rw [h1, Option.bind_some, h2]; rfl, outL_same⟩
#print axioms sop_local
end Go.Proofs.YthklnpkjlepagaaGreatDoor.Ab
