/- What chapter 4 says of terms, as functions of trees: binders, shifts, substitutions, free variables. -/
import Derived.Test.YtjiecahopdaghabDoorTree
namespace Go.Proofs.YtjiecahopdaghabDoor
open Go.RowKit

/-- How many binders stand ahead of a kid. -/
def bnd (op : Int) (k : Int) : Nat :=
  if op = 13 then (if k = 0 then 1 else if k = 2 then 2 else 0)
  else if (op = 3 ∨ op = 4 ∨ op = 6 ∨ op = 20 ∨ op = 28 ∨ op = 29) ∧ k = 1 then 1 else 0

theorem bnd_le (op k : Int) : bnd op k ≤ 2 := by unfold bnd; repeat' (first | omega | split)

mutual
/-- What is made of a tree, node by node, from the inside out; with each node how many binders are ahead of it. -/
def Tr.fold {α : Type} (g : Tr → Int → List α → α) : Int → Tr → α
  | u, ⟨o, n, ks⟩ => g ⟨o, n, ks⟩ u (foldL g u o 0 ks)
def foldL {α : Type} (g : Tr → Int → List α → α) : Int → Int → Nat → List Tr → List α
  | _, _, _, [] => []
  | u, o, i, k :: ks => Tr.fold g (u + (bnd o i : Nat)) k :: foldL g u o (i + 1) ks
end

theorem foldL_idx {α : Type} (g : Tr → Int → List α → α) (u o : Int) : ∀ (ks : List Tr) (i : Nat), foldL g u o i ks = ks.mapIdx (fun j k => Tr.fold g (u + (bnd o ((i + j : Nat) : Int) : Nat)) k)
  | [], i => by rw [foldL, List.mapIdx_nil]
  | k :: ks, i => by
    rw [foldL, List.mapIdx_cons, foldL_idx g u o ks (i + 1)]
    simp only [Nat.add_zero, List.cons.injEq, true_and]
    congr 1
    funext j k
    rw [show i + 1 + j = i + (j + 1) by omega]

theorem fold_eq {α : Type} (g : Tr → Int → List α → α) (u : Int) (t : Tr) : t.fold g u = g t u (t.kids.mapIdx (fun j k => k.fold g (u + (bnd t.op ((j : Nat) : Int) : Nat)))) := by
  cases t with
  | mk o n ks =>
    rw [Tr.fold, foldL_idx]
    simp

/-- Shift. -/
def shf (by_ fr u : Int) (t : Tr) : Tr := t.fold (fun t u rs => ⟨t.op, if t.op = 1 ∧ fr + u ≤ t.n then t.n + by_ else t.n, rs⟩) u
theorem shf_eq (by_ fr u : Int) (t : Tr) : shf by_ fr u t = ⟨t.op, if t.op = 1 ∧ fr + u ≤ t.n then t.n + by_ else t.n, t.kids.mapIdx (fun j k => shf by_ fr (u + (bnd t.op ((j : Nat) : Int) : Nat)) k)⟩ := by
  unfold shf; rw [fold_eq]

/-- Subst. -/
def sub (n : Int) (s : Tr) (u : Int) (t : Tr) : Tr := t.fold (fun t u rs => if t.op = 1 then (if t.n = n + u then shf u 0 0 s else if n + u < t.n then ⟨1, t.n - 1, []⟩ else t) else ⟨t.op, t.n, rs⟩) u
theorem sub_eq (n : Int) (s : Tr) (u : Int) (t : Tr) : sub n s u t = if t.op = 1 then (if t.n = n + u then shf u 0 0 s else if n + u < t.n then ⟨1, t.n - 1, []⟩ else t) else ⟨t.op, t.n, t.kids.mapIdx (fun j k => sub n s (u + (bnd t.op ((j : Nat) : Int) : Nat)) k)⟩ := by
  unfold sub; rw [fold_eq]

/-- Free. -/
def fre (n u : Int) (t : Tr) : Bool := t.fold (fun t u rs => if t.op = 1 then decide (t.n = n + u) else rs.any id) u
theorem fre_eq (n u : Int) (t : Tr) : fre n u t = if t.op = 1 then decide (t.n = n + u) else (t.kids.mapIdx (fun j k => fre n (u + (bnd t.op ((j : Nat) : Int) : Nat)) k)).any id := by
  unfold fre; rw [fold_eq]

/-- Below. -/
def bel (n u : Int) (t : Tr) : Bool := t.fold (fun t u rs => if t.op = 1 then decide (t.n < n + u) else rs.all id) u
theorem bel_eq (n u : Int) (t : Tr) : bel n u t = if t.op = 1 then decide (t.n < n + u) else (t.kids.mapIdx (fun j k => bel n (u + (bnd t.op ((j : Nat) : Int) : Nat)) k)).all id := by
  unfold bel; rw [fold_eq]

/-- How many free variables answer a question by yes. -/
def cnt (p : Int → Bool) (u : Int) (t : Tr) : Nat := t.fold (fun t u rs => (if t.op = 1 ∧ u ≤ t.n ∧ p (t.n - u) = true then 1 else 0) + rs.sum) u
theorem cnt_eq (p : Int → Bool) (u : Int) (t : Tr) : cnt p u t = (if t.op = 1 ∧ u ≤ t.n ∧ p (t.n - u) = true then 1 else 0) + (t.kids.mapIdx (fun j k => cnt p (u + (bnd t.op ((j : Nat) : Int) : Nat)) k)).sum := by
  unfold cnt; rw [fold_eq]

/-- Variables have no kids, and numbers from 0 to b. -/
def Snd (b : Int) (t : Tr) : Prop := ∀ x ∈ t.pre, x.op = 1 → x.kids = [] ∧ 0 ≤ x.n ∧ x.n ≤ b

theorem mem_pre_self (t : Tr) : t ∈ t.pre := by rw [Tr.pre_eq]; simp
theorem mem_pre_kid {t k x : Tr} (hk : k ∈ t.kids) (hx : x ∈ k.pre) : x ∈ t.pre := by
  rw [Tr.pre_eq]
  exact List.mem_cons_of_mem _ (List.mem_flatten.2 ⟨k.pre, List.mem_map_of_mem hk, hx⟩)
theorem Snd.top {b : Int} {t : Tr} (h : Snd b t) (ho : t.op = 1) : t.kids = [] ∧ 0 ≤ t.n ∧ t.n ≤ b := h t (mem_pre_self t) ho
theorem Snd.kid {b : Int} {t k : Tr} (h : Snd b t) (hk : k ∈ t.kids) : Snd b k := fun x hx => h x (mem_pre_kid hk hx)
theorem Snd.mk {b : Int} {t : Tr} (h0 : t.op = 1 → t.kids = [] ∧ 0 ≤ t.n ∧ t.n ≤ b) (hk : ∀ k ∈ t.kids, Snd b k) : Snd b t := by
  intro x hx ho
  rw [Tr.pre_eq, List.mem_cons] at hx
  rcases hx with rfl | hx
  · exact h0 ho
  · obtain ⟨l, hl, hx⟩ := List.mem_flatten.1 hx
    obtain ⟨k, hk', rfl⟩ := List.mem_map.1 hl
    exact hk k hk' x hx ho
theorem Snd.more {b c : Int} {t : Tr} (h : Snd b t) (hc : b ≤ c) : Snd c t := fun x hx ho => by
  obtain ⟨h1, h2, h3⟩ := h x hx ho
  exact ⟨h1, h2, by omega⟩
theorem Tr.kid_size {t k : Tr} (hk : k ∈ t.kids) : k.size < t.size := by
  have h1 : k.size ≤ (t.kids.map Tr.size).sum := le_sum_of_mem _ _ (List.mem_map_of_mem hk)
  have h2 := t.size_eq
  omega
#print axioms cnt_eq
end Go.Proofs.YtjiecahopdaghabDoor
