/- Forms (and raw ones) as plain trees, how they lie in memory, and what stays when memory grows. -/
import Derived.Test.YthhgphokbgpaiabDoorTw
namespace Go.Proofs.YthhgphokbgpaiabDoor
open Go.RowKit

/-- A form, or a raw one. -/
structure Fm where
  kind : Int
  n : Int
  s : List UInt8
  l : List Fm

def Fm.size : Fm → Nat
  | ⟨_, _, _, ks⟩ => 1 + (ks.map Fm.size).sum

theorem Fm.size_eq (t : Fm) : t.size = 1 + (t.l.map Fm.size).sum := by
  cases t; rw [Fm.size]

theorem Fm.size_pos (t : Fm) : 1 ≤ t.size := by rw [Fm.size_eq]; omega

theorem le_sum_of_mem (l : List Nat) (x : Nat) (h : x ∈ l) : x ≤ l.sum := by
  induction l with
  | nil => cases h
  | cons y l ih =>
    rw [List.sum_cons]
    rcases List.mem_cons.1 h with rfl | h
    · omega
    · have := ih h; omega

theorem Fm.kid_size {t k : Fm} (hk : k ∈ t.l) : k.size < t.size := by
  have h1 : k.size ≤ (t.l.map Fm.size).sum := le_sum_of_mem _ _ (List.mem_map_of_mem hk)
  have h2 := t.size_eq
  omega

theorem Fm.ind {P : Fm → Prop} (h : ∀ t, (∀ k ∈ t.l, P k) → P t) (t : Fm) : P t := by
  have key : ∀ (n : Nat) (t : Fm), t.size ≤ n → P t := by
    intro n
    induction n with
    | zero => intro t ht; have := t.size_pos; omega
    | succ n ih =>
      intro t ht
      refine h t (fun k hk => ih k ?_)
      have := Fm.kid_size hk
      omega
  exact key _ t (Nat.le_refl _)

/-- 64 bits. -/
def I64 (x : Int) : Prop := -9223372036854775808 ≤ x ∧ x ≤ 9223372036854775807

/-- A row of forms lies at an address, in a block of D: four cells each, each read by R. -/
def RowAt (w : World) (D : Nat → Prop) (R : Fm → Value → Prop) (ts : List Fm) (a : Option Addr) (cap : Nat) : Prop :=
  ts.length ≤ cap ∧ cap ≤ maxLen ∧ (ts ≠ [] → ∃ b off, a = some ⟨b, off, none⟩ ∧ D b ∧
    ∀ (i : Nat) (h : i < ts.length), ∃ x0 x1 x2 x3, w.cell? ⟨b, off + i * 4, none⟩ = some x0 ∧ w.cell? ⟨b, off + i * 4 + 1, none⟩ = some x1 ∧ w.cell? ⟨b, off + i * 4 + 2, none⟩ = some x2 ∧ w.cell? ⟨b, off + i * 4 + 3, none⟩ = some x3 ∧ R ts[i] (.agg #[x0, x1, x2, x3]))

/-- The form t lies in the value v, in blocks of D, at most f deep. -/
def FmD (w : World) (D : Nat → Prop) : Nat → Fm → Value → Prop
  | 0, _, _ => False
  | f + 1, t, v => ∃ a cap, v = .agg #[.int .i64 t.kind, .int .i64 t.n, .string ⟨⟨t.s⟩⟩, .slice a t.l.length cap] ∧ I64 t.kind ∧ I64 t.n ∧ RowAt w D (FmD w D f) t.l a cap

/-- .. in blocks below B. -/
abbrev FmAt (w : World) (B : Nat) (f : Nat) (t : Fm) (v : Value) : Prop := FmD w (fun k => k < B) f t v

theorem RowAt.imp {w w' : World} {D D' : Nat → Prop} {R R' : Fm → Value → Prop} {ts : List Fm} {a : Option Addr} {cap : Nat} (h : RowAt w D R ts a cap)
    (hb : ∀ k, D k → w'.heap[k]? = w.heap[k]?) (hD : ∀ k, D k → D' k) (hR : ∀ t v, R t v → R' t v) : RowAt w' D' R' ts a cap := by
  refine ⟨h.1, h.2.1, fun hne => ?_⟩
  obtain ⟨b, off, rfl, hlt, hx⟩ := h.2.2 hne
  refine ⟨b, off, rfl, hD _ hlt, fun i hi => ?_⟩
  obtain ⟨x0, x1, x2, x3, h0, h1, h2, h3, hr⟩ := hx i hi
  refine ⟨x0, x1, x2, x3, ?_, ?_, ?_, ?_, hR _ _ hr⟩
  · rw [World.cell?_of_block (w := w) (hb b hlt)]; exact h0
  · rw [World.cell?_of_block (w := w) (hb b hlt)]; exact h1
  · rw [World.cell?_of_block (w := w) (hb b hlt)]; exact h2
  · rw [World.cell?_of_block (w := w) (hb b hlt)]; exact h3

theorem RowAt.nil {w : World} {D : Nat → Prop} {R : Fm → Value → Prop} {a : Option Addr} {cap : Nat} (h : cap ≤ maxLen) : RowAt w D R [] a cap := ⟨Nat.zero_le _, h, fun h => absurd rfl h⟩

/-- The row behind its first k forms. -/
theorem RowAt.drop {w : World} {D : Nat → Prop} {R : Fm → Value → Prop} {ts : List Fm} {b off cap : Nat} {a : Option Addr} (h : RowAt w D R ts (some ⟨b, off, none⟩) cap) (k : Nat) (hk : k ≤ ts.length)
    (ha : ts.drop k ≠ [] → a = some ⟨b, off + k * 4, none⟩) : RowAt w D R (ts.drop k) a (cap - k) := by
  have h1 := h.1
  refine ⟨by simp; omega, by have := h.2.1; omega, fun hne => ?_⟩
  have hts : ts ≠ [] := fun e => hne (by rw [e]; simp)
  obtain ⟨b', off', he, hD, hx⟩ := h.2.2 hts
  simp at he
  obtain ⟨rfl, rfl⟩ := he
  refine ⟨b, off + k * 4, ha hne, hD, fun i hi => ?_⟩
  have hi' : k + i < ts.length := by simp at hi; omega
  obtain ⟨x0, x1, x2, x3, h0, h1, h2, h3, hr⟩ := hx (k + i) hi'
  rw [show off + (k + i) * 4 = off + k * 4 + i * 4 by omega] at h0 h1 h2 h3
  exact ⟨x0, x1, x2, x3, h0, h1, h2, h3, by rw [List.getElem_drop]; exact hr⟩

theorem FmD.keep {w w' : World} {D D' : Nat → Prop} (hb : ∀ k, D k → w'.heap[k]? = w.heap[k]?) (hD : ∀ k, D k → D' k) (f : Nat) : ∀ t v, FmD w D f t v → FmD w' D' f t v := by
  induction f with
  | zero => intro t v h; exact h
  | succ f ih =>
    rintro t v ⟨a, cap, rfl, h1, h2, h3⟩
    exact ⟨a, cap, rfl, h1, h2, h3.imp hb hD ih⟩

theorem FmAt.keep {w w' : World} {B B' : Nat} (hb : ∀ k, k < B → w'.heap[k]? = w.heap[k]?) (hB : B ≤ B') (f : Nat) (t : Fm) (v : Value) (h : FmAt w B f t v) : FmAt w' B' f t v :=
  FmD.keep hb (fun _ hk => Nat.lt_of_lt_of_le hk hB) f t v h

theorem FmAt.below {w w' : World} {B B' B0 : Nat} {f : Nat} {t : Fm} {v : Value} (h : FmAt w B f t v) (hb : Below B0 w w') (h0 : B ≤ B0) (hB : B ≤ B') : FmAt w' B' f t v :=
  FmAt.keep (fun k hk => hb.block k (by omega)) hB f t v h

theorem FmD.more {w : World} {D : Nat → Prop} {f : Nat} : ∀ {g : Nat} {t : Fm} {v : Value}, FmD w D f t v → f ≤ g → FmD w D g t v := by
  induction f with
  | zero => intro g t v h; exact h.elim
  | succ f ih =>
    rintro g t v ⟨a, cap, rfl, h1, h2, h3⟩ hg
    match g, hg with
    | g + 1, hg => exact ⟨a, cap, rfl, h1, h2, h3.imp (fun _ _ => rfl) (fun _ h => h) (fun t v h => ih h (by omega))⟩

theorem FmD.shape {w : World} {D : Nat → Prop} {f : Nat} {t : Fm} {v : Value} (h : FmD w D f t v) : ∃ a cap, v = .agg #[.int .i64 t.kind, .int .i64 t.n, .string ⟨⟨t.s⟩⟩, .slice a t.l.length cap] ∧ t.l.length ≤ cap ∧ cap ≤ maxLen ∧ I64 t.kind ∧ I64 t.n := by
  match f, h with
  | f + 1, ⟨a, cap, hv, h1, h2, h3⟩ => exact ⟨a, cap, hv, h3.1, h3.2.1, h1, h2⟩

/-- The cells of a row of forms that grows. -/
def KidsAt (w : World) (D : Nat → Prop) (f : Nat) (ts : List Fm) (xs : List Value) : Prop :=
  xs.length = ts.length * 4 ∧ ∀ (i : Nat) (h : i < ts.length), ∃ x0 x1 x2 x3, xs[i * 4]? = some x0 ∧ xs[i * 4 + 1]? = some x1 ∧ xs[i * 4 + 2]? = some x2 ∧ xs[i * 4 + 3]? = some x3 ∧ FmD w D f ts[i] (.agg #[x0, x1, x2, x3])

theorem KidsAt.nil (w : World) (D : Nat → Prop) (f : Nat) : KidsAt w D f [] [] := ⟨rfl, fun _ h => absurd h (by simp)⟩

theorem KidsAt.keep {w w' : World} {D D' : Nat → Prop} {f : Nat} {ts : List Fm} {xs : List Value} (h : KidsAt w D f ts xs) (hb : ∀ k, D k → w'.heap[k]? = w.heap[k]?) (hD : ∀ k, D k → D' k) : KidsAt w' D' f ts xs := by
  refine ⟨h.1, fun i hi => ?_⟩
  obtain ⟨x0, x1, x2, x3, h0, h1, h2, h3, h4⟩ := h.2 i hi
  exact ⟨x0, x1, x2, x3, h0, h1, h2, h3, h4.keep hb hD f _ _⟩

theorem KidsAt.more {w : World} {D : Nat → Prop} {f g : Nat} {ts : List Fm} {xs : List Value} (h : KidsAt w D f ts xs) (hg : f ≤ g) : KidsAt w D g ts xs := by
  refine ⟨h.1, fun i hi => ?_⟩
  obtain ⟨x0, x1, x2, x3, h0, h1, h2, h3, h4⟩ := h.2 i hi
  exact ⟨x0, x1, x2, x3, h0, h1, h2, h3, h4.more hg⟩

theorem KidsAt.snoc {w : World} {D : Nat → Prop} {f : Nat} {ts : List Fm} {xs : List Value} (h : KidsAt w D f ts xs) {t : Fm} {a b c d : Value} (ht : FmD w D f t (.agg #[a, b, c, d])) : KidsAt w D f (ts ++ [t]) (xs ++ [a, b, c, d]) := by
  have hl := h.1
  refine ⟨by simp [hl]; omega, fun i hi => ?_⟩
  by_cases hlt : i < ts.length
  · obtain ⟨x0, x1, x2, x3, h0, h1, h2, h3, h4⟩ := h.2 i hlt
    refine ⟨x0, x1, x2, x3, ?_, ?_, ?_, ?_, by rw [List.getElem_append_left hlt]; exact h4⟩
    · rw [List.getElem?_append_left (by omega)]; exact h0
    · rw [List.getElem?_append_left (by omega)]; exact h1
    · rw [List.getElem?_append_left (by omega)]; exact h2
    · rw [List.getElem?_append_left (by omega)]; exact h3
  · have he : i = ts.length := by simp at hi; omega
    subst he
    refine ⟨a, b, c, d, ?_, ?_, ?_, ?_, by rw [List.getElem_append_right (Nat.le_refl _)]; simpa using ht⟩
    · rw [List.getElem?_append_right (by omega), hl]; simp
    · rw [List.getElem?_append_right (by omega), hl]; simp
    · rw [List.getElem?_append_right (by omega), hl]; simp
    · rw [List.getElem?_append_right (by omega), hl]; simp

/-- The row that has grown, as a row of forms. -/
theorem KidsAt.row {w : World} {D D' : Nat → Prop} {f base n : Nat} {e : TypeId} {ts : List Fm} {xs : List Value} {v : Value} (h : KidsAt w D f ts xs) (hown : w.ownsRow base e 4 v n xs) (hn : n = ts.length)
    (hD : ∀ g, v.ownBlock = some g → D' g) (hR : ∀ t u, FmD w D f t u → FmD w D' f t u) : ∃ a cap, v = .slice a ts.length cap ∧ RowAt w D' (FmD w D' f) ts a cap := by
  subst hn
  rcases hown.2 with ⟨rfl, h0⟩ | ⟨g, cap, cur, rfl, hg, hh, hc1, hc2, hcs, htk⟩
  · have := List.eq_nil_of_length_eq_zero h0
    subst this
    exact ⟨none, 0, rfl, RowAt.nil (by unfold maxLen; omega)⟩
  · refine ⟨_, cap, rfl, hc1, hc2, fun _ => ⟨g, 0, rfl, hD g rfl, fun i hi => ?_⟩⟩
    obtain ⟨x0, x1, x2, x3, h0, h1, h2, h3, h4⟩ := h.2 i hi
    have key : ∀ j u, xs[j]? = some u → w.cell? ⟨g, 0 + j, none⟩ = some u := fun j u hu => by
      have := hown.cells (g := g) rfl j u hu
      rwa [Addr.add_lit] at this
    refine ⟨x0, x1, x2, x3, key _ _ h0, ?_, ?_, ?_, hR _ _ h4⟩
    · rw [Nat.add_assoc]; exact key _ _ h1
    · rw [Nat.add_assoc]; exact key _ _ h2
    · rw [Nat.add_assoc]; exact key _ _ h3

/-- All blocks but those of M are as they were; new ones may have come. -/
structure Fr (M : Nat → Prop) (w w' : World) : Prop where
  os : w'.os = w.os
  tape : w'.tape = w.tape
  output : w'.output = w.output
  size : w.heap.size ≤ w'.heap.size
  block : ∀ k, k < w.heap.size → ¬ M k → w'.heap[k]? = w.heap[k]?

theorem Fr.refl (M : Nat → Prop) (w : World) : Fr M w w := ⟨rfl, rfl, rfl, Nat.le_refl _, fun _ _ _ => rfl⟩
theorem Fr.trans {M : Nat → Prop} {a b c : World} (h : Fr M a b) (k : Fr M b c) : Fr M a c :=
  ⟨k.os.trans h.os, k.tape.trans h.tape, k.output.trans h.output, Nat.le_trans h.size k.size, fun i hi hm => (k.block i (by have := h.size; omega) hm).trans (h.block i hi hm)⟩
theorem Fr.of_below {M : Nat → Prop} {w w' : World} (h : Below w.heap.size w w') : Fr M w w' := ⟨h.os, h.tape, h.output, h.size, fun k hk _ => h.block k hk⟩
theorem Fr.of_grown {M : Nat → Prop} {w w' : World} {o : Option Nat} (h : w.grownBy w' o) (hM : ∀ k, o = some k → M k) : Fr M w w' := ⟨h.os, h.tape, h.output, h.size, fun k hk hm => h.block k hk (fun e => hm (hM k e.symm))⟩
theorem Fr.below {M : Nat → Prop} {B : Nat} {w w' : World} (h : Fr M w w') (hB : B ≤ w.heap.size) (hM : ∀ k, M k → B ≤ k) : Below B w w' :=
  ⟨h.os, h.tape, h.output, h.size, fun k hk => h.block k (by omega) (fun hm => by have := hM k hm; omega)⟩
theorem Fr.mono {M M' : Nat → Prop} {w w' : World} (h : Fr M w w') (hM : ∀ k, M k → M' k) : Fr M' w w' := ⟨h.os, h.tape, h.output, h.size, fun k hk hm => h.block k hk (fun x => hm (hM k x))⟩
theorem Fr.alloc {M : Nat → Prop} {a w : World} (h : Fr M a w) (o : Obj) : Fr M a (w.alloc o) :=
  h.trans ⟨rfl, rfl, rfl, by simp, fun k hk _ => Below.heap_alloc _ _ _ hk⟩
theorem Fr.drew {M : Nat → Prop} {a w : World} (h : Fr M a w) : Fr M a w.drew := ⟨h.os, h.tape, h.output, h.size, h.block⟩
theorem Fr.setCell {M : Nat → Prop} {a w : World} (h : Fr M a w) {p : Addr} (hp : M p.block) (u : Value) : Fr M a (w.setCell p u) :=
  h.trans ⟨rfl, rfl, rfl, by simp [World.setCell], fun k _ hm => Below.heap_setCell _ _ _ _ (fun e => hm (e ▸ hp))⟩

theorem blk2 {w : World} {b : Nat} {x y : Value} {T : TypeId} {fr : Nat × Nat} (h : w.heap[b]? = some (.cells #[x, y] T fr)) : w.cell? ⟨b, 0, none⟩ = some x ∧ w.cell? ⟨b, 1, none⟩ = some y :=
  ⟨(cell_of_block h 0).trans rfl, (cell_of_block h 1).trans rfl⟩

theorem Tryd.info25 : (Tryd.prog.info? 25).map (fun i => (i.zero, i.size, i.bytes)) = some (some (.agg #[.int .i64 0, .int .i64 0, .string ⟨#[]⟩, .slice none 0 0]), 4, 56) := by kernel_rfl
theorem Tryd.info23 : (Tryd.prog.info? 23).map (fun i => (i.zero, i.size, i.bytes)) = some (some (.slice none 0 0), 1, 24) := by kernel_rfl
#print axioms KidsAt.row
end Go.Proofs.YthhgphokbgpaiabDoor
