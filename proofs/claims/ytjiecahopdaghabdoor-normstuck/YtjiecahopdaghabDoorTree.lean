/- Terms as plain trees, how such a tree lies in memory, and what stays when memory grows. -/
import Derived.WalkKit
import Derived.WalkSpells
import Derived.WalkLawsBesides
namespace Go.Proofs.YtjiecahopdaghabDoor
open Go.RowKit

/-- A term, or a raw one. -/
structure Tr where
  op : Int
  n : Int
  kids : List Tr

def Tr.size : Tr → Nat
  | ⟨_, _, ks⟩ => 1 + (ks.map Tr.size).sum

theorem Tr.size_eq (t : Tr) : t.size = 1 + (t.kids.map Tr.size).sum := by
  cases t; rw [Tr.size]

theorem Tr.size_pos (t : Tr) : 1 ≤ t.size := by rw [Tr.size_eq]; omega

/-- 64 bits. -/
def I64 (x : Int) : Prop := -9223372036854775808 ≤ x ∧ x ≤ 9223372036854775807

/-- A row of trees lies at an address, in a block of D: three cells each, each read by R. -/
def RowAt (w : World) (D : Nat → Prop) (R : Tr → Value → Prop) (ts : List Tr) (a : Option Addr) (cap : Nat) : Prop :=
  ts.length ≤ cap ∧ cap ≤ maxLen ∧ (ts ≠ [] → ∃ b off, a = some ⟨b, off, none⟩ ∧ D b ∧
    ∀ (i : Nat) (h : i < ts.length), ∃ x0 x1 x2, w.cell? ⟨b, off + i * 3, none⟩ = some x0 ∧ w.cell? ⟨b, off + i * 3 + 1, none⟩ = some x1 ∧ w.cell? ⟨b, off + i * 3 + 2, none⟩ = some x2 ∧ R ts[i] (.agg #[x0, x1, x2]))

/-- The tree t lies in the value v, in blocks of D, at most f deep. -/
def TmD (w : World) (D : Nat → Prop) : Nat → Tr → Value → Prop
  | 0, _, _ => False
  | f + 1, t, v => ∃ a cap, v = .agg #[.int .i64 t.op, .int .i64 t.n, .slice a t.kids.length cap] ∧ I64 t.op ∧ I64 t.n ∧ RowAt w D (TmD w D f) t.kids a cap

/-- .. in blocks below B. -/
abbrev TmAt (w : World) (B : Nat) (f : Nat) (t : Tr) (v : Value) : Prop := TmD w (fun k => k < B) f t v

theorem RowAt.imp {w w' : World} {D D' : Nat → Prop} {R R' : Tr → Value → Prop} {ts : List Tr} {a : Option Addr} {cap : Nat} (h : RowAt w D R ts a cap)
    (hb : ∀ k, D k → w'.heap[k]? = w.heap[k]?) (hD : ∀ k, D k → D' k) (hR : ∀ t v, R t v → R' t v) : RowAt w' D' R' ts a cap := by
  refine ⟨h.1, h.2.1, fun hne => ?_⟩
  obtain ⟨b, off, rfl, hlt, hx⟩ := h.2.2 hne
  refine ⟨b, off, rfl, hD _ hlt, fun i hi => ?_⟩
  obtain ⟨x0, x1, x2, h0, h1, h2, hr⟩ := hx i hi
  refine ⟨x0, x1, x2, ?_, ?_, ?_, hR _ _ hr⟩
  · rw [World.cell?_of_block (w := w) (hb b hlt)]; exact h0
  · rw [World.cell?_of_block (w := w) (hb b hlt)]; exact h1
  · rw [World.cell?_of_block (w := w) (hb b hlt)]; exact h2

/-- The row behind its first tree. -/
theorem RowAt.tail {w : World} {D : Nat → Prop} {R : Tr → Value → Prop} {t : Tr} {ts : List Tr} {b off cap : Nat} {a : Option Addr} (h : RowAt w D R (t :: ts) (some ⟨b, off, none⟩) cap)
    (ha : ts ≠ [] → a = some ⟨b, off + 3, none⟩) : RowAt w D R ts a (cap - 1) := by
  have h1 := h.1
  simp at h1
  refine ⟨by omega, by have := h.2.1; omega, fun hne => ?_⟩
  obtain ⟨b', off', he, hD, hx⟩ := h.2.2 (by simp)
  simp at he
  obtain ⟨rfl, rfl⟩ := he
  refine ⟨b, off + 3, ha hne, hD, fun i hi => ?_⟩
  obtain ⟨x0, x1, x2, h0, h1, h2, hr⟩ := hx (i + 1) (by simp; omega)
  rw [show off + (i + 1) * 3 = off + 3 + i * 3 by omega] at h0 h1 h2
  exact ⟨x0, x1, x2, h0, h1, h2, hr⟩

theorem RowAt.nil {w : World} {D : Nat → Prop} {R : Tr → Value → Prop} {a : Option Addr} {cap : Nat} (h : cap ≤ maxLen) : RowAt w D R [] a cap := ⟨Nat.zero_le _, h, fun h => absurd rfl h⟩

theorem TmD.keep {w w' : World} {D D' : Nat → Prop} (hb : ∀ k, D k → w'.heap[k]? = w.heap[k]?) (hD : ∀ k, D k → D' k) (f : Nat) : ∀ t v, TmD w D f t v → TmD w' D' f t v := by
  induction f with
  | zero => intro t v h; exact h
  | succ f ih =>
    rintro t v ⟨a, cap, rfl, h1, h2, h3⟩
    exact ⟨a, cap, rfl, h1, h2, h3.imp hb hD ih⟩

theorem TmAt.keep {w w' : World} {B B' : Nat} (hb : ∀ k, k < B → w'.heap[k]? = w.heap[k]?) (hB : B ≤ B') (f : Nat) (t : Tr) (v : Value) (h : TmAt w B f t v) : TmAt w' B' f t v :=
  TmD.keep hb (fun _ hk => Nat.lt_of_lt_of_le hk hB) f t v h

theorem TmAt.below {w w' : World} {B B' B0 : Nat} {f : Nat} {t : Tr} {v : Value} (h : TmAt w B f t v) (hb : Below B0 w w') (h0 : B ≤ B0) (hB : B ≤ B') : TmAt w' B' f t v :=
  TmAt.keep (fun k hk => hb.block k (by omega)) hB f t v h

theorem TmD.more {w : World} {D : Nat → Prop} {f : Nat} : ∀ {g : Nat} {t : Tr} {v : Value}, TmD w D f t v → f ≤ g → TmD w D g t v := by
  induction f with
  | zero => intro g t v h; exact h.elim
  | succ f ih =>
    rintro g t v ⟨a, cap, rfl, h1, h2, h3⟩ hg
    match g, hg with
    | g + 1, hg => exact ⟨a, cap, rfl, h1, h2, h3.imp (fun _ _ => rfl) (fun _ h => h) (fun t v h => ih h (by omega))⟩

theorem TmD.drew {w : World} {D : Nat → Prop} {f : Nat} {t : Tr} {v : Value} (h : TmD w D f t v) : TmD w.drew D f t v := TmD.keep (w := w) (w' := w.drew) (fun _ _ => rfl) (fun _ h => h) f t v h

theorem TmAt.more {w : World} {B f g : Nat} {t : Tr} {v : Value} (h : TmAt w B f t v) (hg : f ≤ g) : TmAt w B g t v := TmD.more h hg

/-- The depth of a tree that is read is at most the fuel; the fuel can be taken no greater than the size. -/
theorem sum_take_le (l : List Nat) (k : Nat) : (l.take k).sum ≤ l.sum := by
  have h := congrArg List.sum (List.take_append_drop k l)
  rw [List.sum_append] at h
  omega

/-- A tree and all below it, each ahead of its kids. -/
def Tr.pre : Tr → List Tr
  | ⟨o, n, ks⟩ => ⟨o, n, ks⟩ :: (ks.map Tr.pre).flatten

theorem Tr.pre_eq (t : Tr) : t.pre = t :: (t.kids.map Tr.pre).flatten := by cases t; rw [Tr.pre]

theorem le_sum_of_mem (l : List Nat) (x : Nat) (h : x ∈ l) : x ≤ l.sum := by
  induction l with
  | nil => cases h
  | cons y l ih =>
    rw [List.sum_cons]
    rcases List.mem_cons.1 h with rfl | h
    · omega
    · have := ih h; omega

theorem Tr.ind {P : Tr → Prop} (h : ∀ t, (∀ k ∈ t.kids, P k) → P t) (t : Tr) : P t := by
  have key : ∀ (n : Nat) (t : Tr), t.size ≤ n → P t := by
    intro n
    induction n with
    | zero => intro t ht; have := t.size_pos; omega
    | succ n ih =>
      intro t ht
      refine h t (fun k hk => ih k ?_)
      have h1 : k.size ≤ (t.kids.map Tr.size).sum := le_sum_of_mem _ _ (List.mem_map_of_mem hk)
      have h2 := t.size_eq
      omega
  exact key _ t (Nat.le_refl _)

theorem sum_map_congr {α : Type} (l : List α) (f g : α → Nat) (h : ∀ x ∈ l, f x = g x) : (l.map f).sum = (l.map g).sum := by rw [List.map_congr_left h]

theorem Tr.pre_length (t : Tr) : t.pre.length = t.size := by
  induction t using Tr.ind with
  | h t ih =>
    rw [Tr.pre_eq, Tr.size_eq, List.length_cons, List.length_flatten, List.map_map, sum_map_congr t.kids (List.length ∘ Tr.pre) Tr.size (fun k hk => ih k hk)]
    omega

/-- What Count has come to behind k kids. -/
def cntTo (t : Tr) (m k : Nat) : Nat := min (1 + ((t.kids.take k).map Tr.size).sum) m

theorem cntTo_zero (t : Tr) (m : Nat) (hm : 1 ≤ m) : cntTo t m 0 = 1 := by simp [cntTo]; omega
theorem cntTo_le (t : Tr) (m k : Nat) : cntTo t m k ≤ m := Nat.min_le_right _ _
theorem cntTo_pos (t : Tr) (m k : Nat) (hm : 1 ≤ m) : 1 ≤ cntTo t m k := by unfold cntTo; omega
theorem cntTo_succ (t : Tr) (m k : Nat) (hk : k < t.kids.length) (h : cntTo t m k < m) : cntTo t m (k + 1) = cntTo t m k + min (t.kids[k]).size (m - cntTo t m k) := by
  unfold cntTo at *
  rw [List.take_succ_eq_append_getElem hk]
  simp only [List.map_append, List.sum_append, List.map_cons, List.map_nil, List.sum_cons, List.sum_nil]
  omega
theorem cntTo_end (t : Tr) (m : Nat) : cntTo t m t.kids.length = min t.size m := by
  unfold cntTo; rw [List.take_length, Tr.size_eq]
theorem cntTo_full (t : Tr) (m k : Nat) (h : ¬ cntTo t m k < m) : min t.size m = cntTo t m k := by
  have h1 := sum_take_le (t.kids.map Tr.size) k
  rw [← List.map_take] at h1
  have h2 := t.size_eq
  unfold cntTo at *
  omega

/-- The three cells of a box that was laid last, read in a later world. -/
theorem box3 {w wr : World} {x y z : Value} {T : TypeId} (h : Below (w.heap.size + 1) (w.alloc (.cells #[x, y, z] T)) wr) :
    wr.cell? ⟨w.heap.size, 0, none⟩ = some x ∧ wr.cell? ⟨w.heap.size, 1, none⟩ = some y ∧ wr.cell? ⟨w.heap.size, 2, none⟩ = some z := by
  refine ⟨?_, ?_, ?_⟩ <;> (rw [h.cell (by simp)]; simp)

/-- A cell that was there ahead of the box. -/
theorem oldcell {w wr : World} {o : Obj} (h : Below (w.heap.size + 1) (w.alloc o) wr) {b off : Nat} (hb : b < w.heap.size) : wr.cell? ⟨b, off, none⟩ = w.cell? ⟨b, off, none⟩ := by
  rw [h.cell (by show b < _; omega)]
  exact World.cell?_of_block (w := w) (Below.heap_alloc w o b hb)

theorem below_box {w wr : World} {o : Obj} (h : Below (w.heap.size + 1) (w.alloc o) wr) : Below w.heap.size w wr :=
  ((Below.refl _ _).alloc (Nat.le_refl _) o).trans (h.mono (by omega))

/-- All blocks but those of M are as they were; new ones may have come. -/
structure Fr (M : Nat → Prop) (w w' : World) : Prop where
  os : w'.os = w.os
  tape : w'.tape = w.tape
  output : w'.output = w.output
  size : w.heap.size ≤ w'.heap.size
  block : ∀ k, k < w.heap.size → ¬ M k → w'.heap[k]? = w.heap[k]?

theorem Fr.refl (M : Nat → Prop) (w : World) : Fr M w w := ⟨rfl, rfl, rfl, Nat.le_refl _, fun _ _ _ => rfl⟩
theorem Fr.trans {M : Nat → Prop} {a b c : World} (h : Fr M a b) (k : Fr M b c) : Fr M a c :=
  ⟨k.os.trans h.os, k.tape.trans h.tape, k.output.trans h.output, Nat.le_trans h.size k.size, fun i hi hm => (k.block i (by have := h.size; omega) hm).trans (h.block i hi hm)⟩
theorem Fr.of_below {M : Nat → Prop} {w w' : World} (h : Below w.heap.size w w') : Fr M w w' := ⟨h.os, h.tape, h.output, h.size, fun k hk _ => h.block k hk⟩
theorem Fr.below {M : Nat → Prop} {B : Nat} {w w' : World} (h : Fr M w w') (hB : B ≤ w.heap.size) (hM : ∀ k, M k → B ≤ k) : Below B w w' :=
  ⟨h.os, h.tape, h.output, h.size, fun k hk => h.block k (by omega) (fun hm => by have := hM k hm; omega)⟩
theorem Fr.mono {M M' : Nat → Prop} {w w' : World} (h : Fr M w w') (hM : ∀ k, M k → M' k) : Fr M' w w' := ⟨h.os, h.tape, h.output, h.size, fun k hk hm => h.block k hk (fun x => hm (hM k x))⟩
theorem Fr.alloc {M : Nat → Prop} {a w : World} (h : Fr M a w) (o : Obj) : Fr M a (w.alloc o) :=
  h.trans ⟨rfl, rfl, rfl, by simp, fun k hk _ => Below.heap_alloc _ _ _ hk⟩
theorem Fr.drew {M : Nat → Prop} {a w : World} (h : Fr M a w) : Fr M a w.drew := ⟨h.os, h.tape, h.output, h.size, h.block⟩
theorem Fr.setCell {M : Nat → Prop} {a w : World} (h : Fr M a w) {p : Addr} (hp : M p.block) (u : Value) : Fr M a (w.setCell p u) :=
  h.trans ⟨rfl, rfl, rfl, by simp [World.setCell], fun k _ hm => Below.heap_setCell _ _ _ _ (fun e => hm (e ▸ hp))⟩

theorem size_of_block {w : World} {b : Nat} {o : Obj} (h : w.heap[b]? = some o) : b < w.heap.size := (Array.getElem?_eq_some_iff.1 h).1

theorem cell_of_block {w : World} {b : Nat} {cs : Array Value} {T : TypeId} {fr : Nat × Nat} (h : w.heap[b]? = some (.cells cs T fr)) (i : Nat) : w.cell? ⟨b, i, none⟩ = cs[i]? := by
  simp [World.cell?, h]
theorem frozen_of_block {w : World} {b : Nat} {cs : Array Value} {T : TypeId} (h : w.heap[b]? = some (.cells cs T (0, 0))) (i : Nat) : w.frozen? ⟨b, i, none⟩ = false := by
  simp [World.frozen?, h]

theorem Fr.cell {M : Nat → Prop} {w w' : World} (h : Fr M w w') {b i : Nat} (hb : b < w.heap.size) (hM : ¬ M b) : w'.cell? ⟨b, i, none⟩ = w.cell? ⟨b, i, none⟩ := World.cell?_of_block (w := w) (h.block b hb hM)
theorem Fr.frozen {M : Nat → Prop} {w w' : World} (h : Fr M w w') {b i : Nat} (hb : b < w.heap.size) (hM : ¬ M b) : w'.frozen? ⟨b, i, none⟩ = w.frozen? ⟨b, i, none⟩ := World.frozen?_of_block (w := w) (h.block b hb hM)
theorem src_of_block {w : World} {b : Nat} {cs : List Value} {T : TypeId} {fr : Nat × Nat} (h : w.heap[b]? = some (.cells cs.toArray T fr)) : ∀ j v, cs[j]? = some v → w.cell? ((⟨b, 0, none⟩ : Addr).add j) = some v := by
  intro j v hv
  rw [Addr.add_lit, cell_of_block h]
  simpa using hv

#print axioms TmAt.more
end Go.Proofs.YtjiecahopdaghabDoor
