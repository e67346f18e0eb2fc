/- turned: a term with one of its nodes another one: some term (which one is not asked). -/
import Derived.Test.YtpmaagafcpaajaaDoorRb
import Derived.Test.YtpmaagafcpaajaaDoorLd
import Derived.Test.YtpmaagafcpaajaaDoorSz
import Derived.Test.YtpmaagafcpaajaaDoorRn
import Derived.Deep.RegionLaw
namespace Go.Proofs.YtpmaagafcpaajaaDoor
open Go.RowKit
attribute [local go_sem] put

/-- Where what comes out lies. -/
def TuD (w : World) (D : Nat → Prop) (w' : World) : Nat → Prop := fun q => D q ∨ (w.heap.size ≤ q ∧ q < w'.heap.size)
def TurnOut (w : World) (D : Nat → Prop) (f : Nat) (e : Ending) (w' : World) : Prop :=
  ∃ X p0 p1 pa pl pc, e = .returned (.agg #[.int .i64 p0, .int .i64 p1, .slice pa pl pc]) ∧ TmD w' (TuD w D w') f X (.agg #[.int .i64 p0, .int .i64 p1, .slice pa pl pc]) ∧ Below w.heap.size w w'

theorem box2_facts (w : World) (x0 x1 : Obj) : ((w.alloc x0).alloc x1).heap[w.heap.size]? = some x0 ∧ ((w.alloc x0).alloc x1).heap[w.heap.size + 1]? = some x1 ∧ Below w.heap.size w ((w.alloc x0).alloc x1) := by
  have h0 := heap_alloc_new w x0
  have h1 := heap_alloc_new (w.alloc x0) x1
  rw [World.size_alloc] at h1
  refine ⟨?_, h1, ((Below.refl _ _).alloc (Nat.le_refl _) _).alloc (by simp) _⟩
  rw [Below.heap_alloc _ _ _ (by simp)]; exact h0
theorem later_drew' (w : World) (o : Obj) : Below w.heap.size w (w.drew.alloc o) := by
  have := (Below.refl w.heap.size w).alloc (Nat.le_refl _) o
  exact ⟨this.os, this.tape, this.output, this.size, this.block⟩

/-- A copy of a row, laid into new memory. -/
theorem step_append_copy {P : Program} {w : World} {ops : Array Oper} {o : Oper} {a : Act} {K : Act → World → Prop} {Q : Exit → Act → World → Prop} {E : Prop} (hgd : o.guard = none) (s x : Operand) (t : TypeId)
    (ho : o.op = .call { callee := .builtin .append, args := #[s, x], argTypes := #[t, t] }) (e : TypeId) (i : TypeInfo) (z : Value) (ht : P.underlying t = some (.slice e)) (hi : P.info? e = some i) (hz : i.zero = some z)
    (b : Addr) (hs : a.eval s = .slice (some b) 0 0) (ad : Addr) (m c : Nat) (news : List Value) (hx : a.eval x = .slice (some ad) m c) (hl : news.length = m * i.size) (hnews : ∀ j u, news[j]? = some u → w.cell? (ad.add j) = some u)
    (hm : 0 < m) (h63 : m ≤ maxLen) (hbytes : m * i.bytes ≤ 140737488355328)
    (h : ∀ cap, m ≤ cap → cap ≤ maxLen → K (a.put o.dst (.slice (some ⟨w.heap.size, 0, none⟩) m cap)) (w.drew.alloc (.cells (news.toArray ++ Builtin.zeroCells z.cells (cap - m)) e))) :
    if Region.wanted o (yielded ops a.tmps) = true then Oper.wp P o a w K Q else E := by
  have hw : Region.wanted o (yielded ops a.tmps) = true := by simp [Region.wanted, hgd]
  rw [if_pos hw]
  have hr := run_append_grow (P := P) w t o.type e i z ht hi hz b 0 0 [] (by simp) (fun j v hv => by simp at hv) ad m c news hl hnews (by omega) (by unfold maxLen at h63; omega) (growslice_fits (by omega) (by rw [Nat.zero_add]; exact hbytes))
  simp only [Nat.zero_add] at hr
  rw [show (([] : List Value).toArray ++ news.toArray) = news.toArray by simp] at hr
  unfold Oper.wp execOp
  simp only [ho, resolve, invoke, builtin, Sem.run_bind, Sem.run_pure, Result.andThen_ok, List.map_toArray, List.map_cons, List.map_nil, hs, hx, hr]
  have h2 := h (grownCap w m 0 e) (grownCap_ge w m 0 e) (grownCap_le_maxLen w m 0 e h63)
  exact h2

/-- A row of trees in a block of its own. -/
def RowG (w : World) (g f : Nat) (E : Nat → Prop) (ts : List Tr) : Prop := ∃ cs : Array Value, w.heap[g]? = some (.cells cs 29 (0, 0)) ∧ ts.length * 3 ≤ cs.size ∧
  ∀ (i : Nat) (h : i < ts.length), ∃ x0 x1 x2, cs[i * 3]? = some x0 ∧ cs[i * 3 + 1]? = some x1 ∧ cs[i * 3 + 2]? = some x2 ∧ TmD w E f ts[i] (.agg #[x0, x1, x2])
theorem RowG.keep {w w' : World} {g f : Nat} {E E' : Nat → Prop} {ts : List Tr} (h : RowG w g f E ts) (hb : ∀ x, E x ∨ x = g → w'.heap[x]? = w.heap[x]?) (hE : ∀ x, E x → E' x) : RowG w' g f E' ts := by
  obtain ⟨cs, h1, h2, h3⟩ := h
  refine ⟨cs, (hb g (Or.inr rfl)).trans h1, h2, fun i hi => ?_⟩
  obtain ⟨x0, x1, x2, e0, e1, e2, ht⟩ := h3 i hi
  exact ⟨x0, x1, x2, e0, e1, e2, ht.keep (fun q hq => hb q (Or.inl hq)) hE f _ _⟩
theorem RowG.put {w : World} {g f k : Nat} {E : Nat → Prop} {ts : List Tr} {t' : Tr} {p0 p1 p2 : Value} (h : RowG w g f E ts) (hg : ¬ E g) (hk : k < ts.length) (ht : TmD w E f t' (.agg #[p0, p1, p2])) :
    RowG (((w.setCell ⟨g, k * 3, none⟩ p0).setCell ⟨g, k * 3 + 1, none⟩ p1).setCell ⟨g, k * 3 + 2, none⟩ p2) g f E (ts.set k t') := by
  obtain ⟨cs, h1, h2, h3⟩ := h
  have b1 := heap_setCell_same _ _ (k * 3) _ _ p0 h1
  have b2 := heap_setCell_same _ _ (k * 3 + 1) _ _ p1 b1
  have b3 := heap_setCell_same _ _ (k * 3 + 2) _ _ p2 b2
  have oth : ∀ q, q ≠ g → (((w.setCell ⟨g, k * 3, none⟩ p0).setCell ⟨g, k * 3 + 1, none⟩ p1).setCell ⟨g, k * 3 + 2, none⟩ p2).heap[q]? = w.heap[q]? := fun q hq => by
    rw [heap_setCell_other _ _ _ _ (show q ≠ g from hq), heap_setCell_other _ _ _ _ (show q ≠ g from hq), heap_setCell_other _ _ _ _ (show q ≠ g from hq)]
  have hD : ∀ t v, TmD w E f t v → TmD (((w.setCell ⟨g, k * 3, none⟩ p0).setCell ⟨g, k * 3 + 1, none⟩ p1).setCell ⟨g, k * 3 + 2, none⟩ p2) E f t v := fun t v h =>
    h.keep (fun q hq => oth q (fun e => hg (e ▸ hq))) (fun q hq => hq) f t v
  refine ⟨_, b3, by simp only [List.length_set, Array.size_setIfInBounds]; exact h2, fun i hi => ?_⟩
  rw [List.length_set] at hi
  by_cases he : i = k
  · subst he
    refine ⟨p0, p1, p2, ?_, ?_, ?_, by rw [List.getElem_set_self]; exact hD _ _ ht⟩
    · rw [Array.getElem?_setIfInBounds_ne (by omega), Array.getElem?_setIfInBounds_ne (by omega), Array.getElem?_setIfInBounds_self_of_lt (by omega)]
    · rw [Array.getElem?_setIfInBounds_ne (by omega), Array.getElem?_setIfInBounds_self_of_lt (by simp; omega)]
    · rw [Array.getElem?_setIfInBounds_self_of_lt (by simp; omega)]
  · obtain ⟨x0, x1, x2, e0, e1, e2, hx⟩ := h3 i hi
    refine ⟨x0, x1, x2, ?_, ?_, ?_, by rw [List.getElem_set_ne (fun e => he e.symm)]; exact hD _ _ hx⟩
    · rw [Array.getElem?_setIfInBounds_ne (by omega), Array.getElem?_setIfInBounds_ne (by omega), Array.getElem?_setIfInBounds_ne (by omega)]; exact e0
    · rw [Array.getElem?_setIfInBounds_ne (by omega), Array.getElem?_setIfInBounds_ne (by omega), Array.getElem?_setIfInBounds_ne (by omega)]; exact e1
    · rw [Array.getElem?_setIfInBounds_ne (by omega), Array.getElem?_setIfInBounds_ne (by omega), Array.getElem?_setIfInBounds_ne (by omega)]; exact e2
theorem RowG.row {w : World} {g f cap : Nat} {E E' : Nat → Prop} {ts : List Tr} (h : RowG w g f E ts) (h1 : ts.length ≤ cap) (h2 : cap ≤ maxLen) (hg : E' g) (hE : ∀ x, E x → E' x) : RowAt w E' (TmD w E' f) ts (some ⟨g, 0, none⟩) cap := by
  obtain ⟨cs, hb, hs, hx⟩ := h
  refine ⟨h1, h2, fun _ => ⟨g, 0, rfl, hg, fun i hi => ?_⟩⟩
  obtain ⟨x0, x1, x2, e0, e1, e2, ht⟩ := hx i hi
  refine ⟨x0, x1, x2, ?_, ?_, ?_, ht.keep (fun _ _ => rfl) hE f _ _⟩
  · rw [cell_of_block hb, Nat.zero_add]; exact e0
  · rw [cell_of_block hb, Nat.zero_add]; exact e1
  · rw [cell_of_block hb, Nat.zero_add]; exact e2
/-- One place of it. -/
theorem RowG.cells {w : World} {g f : Nat} {E : Nat → Prop} {ts : List Tr} (h : RowG w g f E ts) {k : Nat} (hk : k < ts.length) :
    ∃ ka kc, w.cell? ⟨g, k * 3, none⟩ = some (.int .i64 ts[k].op) ∧ w.cell? ⟨g, k * 3 + 1, none⟩ = some (.int .i64 ts[k].n) ∧ w.cell? ⟨g, k * 3 + 2, none⟩ = some (.slice ka ts[k].kids.length kc) ∧ TmD w E f ts[k] (.agg #[.int .i64 ts[k].op, .int .i64 ts[k].n, .slice ka ts[k].kids.length kc]) := by
  obtain ⟨cs, hb, hs, hx⟩ := h
  obtain ⟨x0, x1, x2, e0, e1, e2, ht⟩ := hx k hk
  obtain ⟨ka, kc, hv, _⟩ := ht.shape
  have hv' := hv
  simp only [Value.agg.injEq, Array.mk.injEq, List.cons.injEq, and_true] at hv'
  obtain ⟨rfl, rfl, rfl⟩ := hv'
  exact ⟨ka, kc, (cell_of_block hb _).trans e0, (cell_of_block hb _).trans e1, (cell_of_block hb _).trans e2, ht⟩
theorem RowG.blk {w : World} {g f : Nat} {E : Nat → Prop} {ts : List Tr} (h : RowG w g f E ts) : g < w.heap.size ∧ ∀ i, w.frozen? ⟨g, i, none⟩ = false := by
  obtain ⟨cs, hb, _⟩ := h
  exact ⟨size_of_block hb, fun i => frozen_of_block hb i⟩
theorem RowG.copied {w w' : World} {D : Nat → Prop} {f g : Nat} {ts : List Tr} {xs : List Value} {ys : Array Value} (h : KidsAt w D f ts xs) (hb : ∀ y, D y → w'.heap[y]? = w.heap[y]?) (hg : w'.heap[g]? = some (.cells (xs.toArray ++ ys) 29 (0, 0))) : RowG w' g f D ts := by
  refine ⟨_, hg, by have := h.1; simp; omega, fun i hi => ?_⟩
  obtain ⟨x0, x1, x2, e0, e1, e2, ht⟩ := h.2 i hi
  have hl := h.1
  have key : ∀ j u, xs[j]? = some u → (xs.toArray ++ ys)[j]? = some u := fun j u hu => by
    have hj : j < xs.length := (List.getElem?_eq_some_iff.1 hu).1
    rw [Array.getElem?_append_left (by simpa using hj)]
    simpa using hu
  exact ⟨x0, x1, x2, key _ _ e0, key _ _ e1, key _ _ e2, ht.keep hb (fun _ h => h) f _ _⟩
/-- The cells of a row of trees, as a list. -/
theorem row_cells {w : World} {D : Nat → Prop} {f b off : Nat} (ts : List Tr) (h : ∀ (i : Nat) (h : i < ts.length), ∃ x0 x1 x2, w.cell? ⟨b, off + i * 3, none⟩ = some x0 ∧ w.cell? ⟨b, off + i * 3 + 1, none⟩ = some x1 ∧ w.cell? ⟨b, off + i * 3 + 2, none⟩ = some x2 ∧ TmD w D f ts[i] (.agg #[x0, x1, x2])) (n : Nat) (hn : n ≤ ts.length) :
    ∃ xs : List Value, (∀ j u, xs[j]? = some u → w.cell? ⟨b, off + j, none⟩ = some u) ∧ KidsAt w D f (ts.take n) xs := by
  induction n with
  | zero => exact ⟨[], fun j u h => by simp at h, by rw [List.take_zero]; exact KidsAt.nil _ _ _⟩
  | succ n ih =>
    obtain ⟨xs, h1, h3⟩ := ih (by omega)
    obtain ⟨x0, x1, x2, e0, e1, e2, hx⟩ := h n (by omega)
    have hl := h3.1
    rw [List.length_take, Nat.min_eq_left (by omega)] at hl
    refine ⟨xs ++ [x0, x1, x2], fun j u hu => ?_, by rw [List.take_succ_eq_append_getElem (by omega)]; exact h3.snoc hx⟩
    by_cases hj : j < xs.length
    · rw [List.getElem?_append_left hj] at hu
      exact h1 j u hu
    · rw [List.getElem?_append_right (by omega)] at hu
      obtain ⟨k, hk⟩ : ∃ k, j - xs.length = k := ⟨_, rfl⟩
      rw [hk] at hu
      match k, hu with
      | 0, hu => simp at hu; subst hu; rw [show off + j = off + n * 3 by omega]; exact e0
      | 1, hu => simp at hu; subst hu; rw [show off + j = off + n * 3 + 1 by omega]; exact e1
      | 2, hu => simp at hu; subst hu; rw [show off + j = off + n * 3 + 2 by omega]; exact e2
      | k + 3, hu => simp at hu

/-- What comes of the copy. -/
def CopyOut (B : Nat) (D : Nat → Prop) (f : Nat) (t : Tr) (g c : Nat) (w : World) (M : Nat → Prop) : Prop :=
  t.kids.length ≤ c ∧ c ≤ maxLen ∧ ¬ M g ∧ B ≤ g ∧ (∀ y, D y → ¬ M y) ∧ (∀ y, D y → y < w.heap.size) ∧ RowG w g f D t.kids
theorem CopyOut.keep {B f g c : Nat} {D : Nat → Prop} {t : Tr} {w w' : World} {M M' : Nat → Prop} (h : CopyOut B D f t g c w M) (hf : Fr M w w') (hM : ∀ q, q < w.heap.size → (M' q ↔ M q)) : CopyOut B D f t g c w' M' := by
  obtain ⟨h1, h2, h3, h4, h5, h6, h7⟩ := h
  have hg := h7.blk.1
  refine ⟨h1, h2, fun h => h3 ((hM g hg).1 h), h4, fun y hy h => h5 y hy ((hM y (h6 y hy)).1 h), fun y hy => Nat.lt_of_lt_of_le (h6 y hy) hf.size, h7.keep (fun x hx => ?_) (fun _ h => h)⟩
  rcases hx with hx | rfl
  · exact hf.block x (h6 x hx) (h5 x hx)
  · exact hf.block _ hg h3
def tuF (H B : Nat) (D : Nat → Prop) (f : Nat) (t : Tr) (a : Option Addr) (cap : Nat) : Nat → Value → World → (Nat → Prop) → Prop
  | 0 => fun v _ _ => v = .pointer (some ⟨H, 0, none⟩)
  | 1 => fun v _ _ => v = .int .i64 t.op
  | 2 => fun v _ _ => v = .pointer (some ⟨H, 1, none⟩)
  | 3 => fun v _ _ => v = .int .i64 t.n
  | 4 => fun v w M => ∃ q, v = .slice (some ⟨q, 0, none⟩) 0 0 ∧ w.heap[q]? = some (.cells #[] 29 (0, 0)) ∧ ¬ M q
  | 5 => fun v _ _ => v = .pointer (some ⟨H, 2, none⟩)
  | 6 => fun v _ _ => v = .slice a t.kids.length cap
  | 7 => fun v w M => ∃ g c, v = .slice (some ⟨g, 0, none⟩) t.kids.length c ∧ CopyOut B D f t g c w M
  | 8 => fun v w M => ∃ g c, v = .agg #[.int .i64 t.op, .int .i64 t.n, .slice (some ⟨g, 0, none⟩) t.kids.length c] ∧ CopyOut B D f t g c w M
  | _ => fun _ _ _ => True
theorem tuF.keep (H B : Nat) (D : Nat → Prop) (f : Nat) (t : Tr) (a : Option Addr) (cap : Nat) (k : Nat) (v : Value) (w w' : World) (M M' : Nat → Prop) (h : tuF H B D f t a cap k v w M) (hf : Fr M w w') (hM : ∀ q, q < w.heap.size → (M' q ↔ M q)) : tuF H B D f t a cap k v w' M' := by
  unfold tuF at *
  split at h
  all_goals first
    | exact h
    | (obtain ⟨g, c, e, h7⟩ := h; exact ⟨g, c, e, h7.keep hf hM⟩)
    | (obtain ⟨q, e, h1, h2⟩ := h; exact ⟨q, e, (hf.block q (size_of_block h1) h2).trans h1, fun h => h2 ((hM q (size_of_block h1)).1 h)⟩)

theorem copy_apart {w : World} {B H f g q c : Nat} {D : Nat → Prop} {t : Tr} {M : Nat → Prop} (h : CopyOut B D f t g c w M) (hD : ∀ y, D y → y < H) (hB : H ≤ B) (hl : 0 < t.kids.length) (hq : w.heap[q]? = some (.cells #[.int .i64 t.op, .int .i64 t.n, .slice (some ⟨g, 0, none⟩) t.kids.length c] 29 (0, 0))) : g ≠ q := by
  rintro rfl
  obtain ⟨_, _, _, h4, _, _, cs, h1, h2, h3⟩ := h
  rw [hq] at h1
  simp only [Option.some.injEq, Obj.cells.injEq, and_true] at h1
  subst h1
  simp at h2
  have hl1 : t.kids.length = 1 := by omega
  obtain ⟨x0, x1, x2, e0, e1, e2, ht⟩ := h3 0 hl
  simp at e0 e1 e2
  subst e0 e1 e2
  match f, ht with
  | f + 1, ⟨a, cap, hv, _, _, hr⟩ =>
    simp only [Value.agg.injEq, Array.mk.injEq, List.cons.injEq, Value.slice.injEq, and_true] at hv
    obtain ⟨_, _, rfl, hk, _⟩ := hv
    have hk2 : 0 < (t.kids[0]).kids.length := by omega
    obtain ⟨b, off, he, hDb, _⟩ := hr.2.2 (fun e => by rw [e] at hk2; simp at hk2)
    simp at he
    have := hD b hDb
    omega
theorem cfTu (args : Array Value) (w : World) : (callFunc 12 args).run Tryd.prog w = .ok (.enter 12 args) w := cf_of Tryd.func12 (by kernel_rfl) (by kernel_rfl) args w
theorem step_call4 {P : Program} {ops : Array Oper} {o : Oper} {a : Act} {w : World} {K : Act → World → Prop} {Q : Exit → Act → World → Prop} {E : Prop} (hgd : o.guard = none) (k : Nat) (x y z x4 : Operand) (ts : Array TypeId)
    (ho : o.op = .call { callee := .value (.func k), args := #[x, y, z, x4], argTypes := ts }) (hcf : ∀ vs w, (callFunc k vs).run P w = .ok (.enter k vs) w) (v u t v4 : Value) (hv : a.eval x = v) (hu : a.eval y = u) (ht : a.eval z = t) (h4 : a.eval x4 = v4)
    (R : Ending → World → Prop) (h : Calls P k #[v, u, t, v4] w R) (hK : ∀ e w', R e w' → ∃ u, e = .returned u ∧ K (a.put o.dst u) w') :
    if Region.wanted o (yielded ops a.tmps) = true then Oper.wp P o a w K Q else E := by
  have hw : Region.wanted o (yielded ops a.tmps) = true := by simp [Region.wanted, hgd]
  rw [if_pos hw]
  unfold Oper.wp
  have hrun : (execOp a.eval o).run P w = .ok (.enter k #[v, u, t, v4]) w := by
    have hf : a.eval (.func k) = .func (.func k) #[] #[] := rfl
    simp [execOp, ho, resolve, invoke, hcf, hv, hu, ht, h4, hf, Deferred.ofValue]
  rw [hrun, Oper.upon_enter]
  refine h.mono ?_
  intro e w' hr
  obtain ⟨u, rfl, hk⟩ := hK e w' hr
  exact hk

/-- The root itself is another one. -/
theorem turn_root {w w' : World} {D : Nat → Prop} {f cap : Nat} {t : Tr} {a : Option Addr} {o m : Int} (h : RowAt w D (TmD w D f) t.kids a cap) (ho : I64 o) (hm : I64 m) (hb : ∀ y, D y → w'.heap[y]? = w.heap[y]?) :
    TmD w' (TuD w D w') (f + 1) ⟨o, m, t.kids⟩ (.agg #[.int .i64 o, .int .i64 m, .slice a t.kids.length cap]) :=
  ⟨a, cap, rfl, ho, hm, h.imp hb (fun _ h => Or.inl h) (fun x u hx => hx.keep hb (fun _ h => Or.inl h) f x u)⟩

/-- Where the row's trees lie while the kids are gone through. -/
def TuE (w : World) (D : Nat → Prop) (g : Nat) (wr : World) : Nat → Prop := fun x => D x ∨ (w.heap.size + 2 ≤ x ∧ x < wr.heap.size ∧ x ≠ g)

theorem put3_other {w : World} {c q : Nat} {x y z : Value} (h : q ≠ c) : (((w.setCell ⟨c, 0, none⟩ x).setCell ⟨c, 1, none⟩ y).setCell ⟨c, 2, none⟩ z).heap[q]? = w.heap[q]? := by
  rw [heap_setCell_other _ _ _ _ (show q ≠ c from h), heap_setCell_other _ _ _ _ (show q ≠ c from h), heap_setCell_other _ _ _ _ (show q ≠ c from h)]
theorem tuE_of {w w3 w5 : World} {D : Nat → Prop} {g x : Nat} (h : TuD w3.drew (TuE w D g w3) w5 x) (h5 : w3.heap.size ≤ w5.heap.size) (h3 : w.heap.size + 2 ≤ w3.heap.size) (hg : g < w3.heap.size) : TuE w D g w5 x := by
  rcases h with (h | h) | h
  · exact Or.inl h
  · exact Or.inr ⟨h.1, by omega, h.2.2⟩
  · have h1 : w3.heap.size ≤ x := h.1
    exact Or.inr ⟨by omega, h.2, by omega⟩
theorem put3_row {w : World} {g q a b c : Nat} {x y z : Value} (h : q ≠ g) : (((w.setCell ⟨g, a, none⟩ x).setCell ⟨g, b, none⟩ y).setCell ⟨g, c, none⟩ z).heap[q]? = w.heap[q]? := by
  rw [heap_setCell_other _ _ _ _ (show q ≠ g from h), heap_setCell_other _ _ _ _ (show q ≠ g from h), heap_setCell_other _ _ _ _ (show q ≠ g from h)]

attribute [local go_sem ↓] Go.wp_at_zero Go.wp_at_succ

set_option maxRecDepth 20000 in
set_option maxHeartbeats 2000000 in
theorem turned_any (f : Nat) : ∀ (t : Tr) (v : Value) (D : Nat → Prop) (at_ op n : Int) (w : World), TmD w D f t v → (∀ q, D q → q < w.heap.size) → t.size ≤ 1000000 → 0 ≤ at_ → at_ < (t.size : Nat) → I64 op → I64 n →
    Calls Tryd.prog 12 #[v, .int .i64 at_, .int .i64 op, .int .i64 n] w (TurnOut w D f) := by
  induction f with
  | zero => intro t v D at_ op n w h; exact h.elim
  | succ f ih =>
    rintro t v D at_ op n w ⟨a, cap, rfl, hop, hn, hrow⟩ hD hsz ha0 ha1 ho64 hn64
    have IH := hide ih; clear ih
    have HR := hide hrow
    have hlm : t.kids.length ≤ maxLen := Nat.le_trans hrow.1 hrow.2.1
    unfold maxLen at hlm
    clear hrow
    have HD := hide hD
    have hl6 : t.kids.length ≤ 1000000 := Nat.le_trans (len_size t) hsz
    have HOP := hide hop; have HN := hide hn; have HO64 := hide ho64; have HN64 := hide hn64; have HSZ := hide hsz; have HA1 := hide ha1
    have ha2 : at_ ≤ 1000000 := by omega
    obtain ⟨hx0, hx1, hx2⟩ := box2_facts w (.cells #[.int .i64 t.op, .int .i64 t.n, .slice a t.kids.length cap] 29) (.cells #[.int .i64 0, .int .i64 0, .slice none 0 0] 29)
    have HX0 := hide hx0; have HX1 := hide hx1; have HX2 := hide hx2
    clear hx0 hx1 hx2 hD hop hn ho64 hn64 hsz ha1
    go_enter Tryd.func12, Tryd.ntmps12
    go_upto_region 1 with fail
    obtain ⟨WW, hWW⟩ : ∃ WW, WW = ((w.alloc (.cells #[.int .i64 t.op, .int .i64 t.n, .slice a t.kids.length cap] 29)).alloc (.cells #[.int .i64 0, .int .i64 0, .slice none 0 0] 29)) := ⟨_, rfl⟩
    have hWs : WW.heap.size = w.heap.size + 2 := by rw [hWW]; simp
    rw [← hWW] at HX0 HX1 HX2 ⊢
    clear hWW
    by_cases haz : at_ = 0
    · subst haz
      obtain ⟨r0, r1, r2⟩ := blk3 HX0.out
      obtain ⟨q0, q1, q2⟩ := blk3 HX1.out
      obtain ⟨z0, z1, z2⟩ := frz3 HX0.out
      obtain ⟨y0, y1, y2⟩ := frz3 HX1.out
      by_cases hm : n.tmod 2 = 0
      · go_wp2_with fail
        refine bodyPost_ret (v := .agg #[.int .i64 op, .int .i64 t.n, .slice a t.kids.length cap]) (by simp [results, Tryd.results12, go_sem, q0, q1, q2]) rfl ⟨_, _, _, _, _, _, rfl, turn_root HR.out HO64.out HN.out (fun y hy => ?_), (((HX2.out.setCell (by simp) _).setCell (by simp) _).setCell (by simp) _).setCell (by simp) _⟩
        have := HD.out y hy
        rw [put3_other (by omega), heap_setCell_other _ _ _ _ (show y ≠ w.heap.size by omega)]
        exact HX2.out.block y this
      · have hmb : (n.tmod 2 == 0) = false := ne_beq hm
        go_wp2_with fail
        refine bodyPost_ret (v := .agg #[.int .i64 t.op, .int .i64 n, .slice a t.kids.length cap]) (by simp [results, Tryd.results12, go_sem, q0, q1, q2]) rfl ⟨_, _, _, _, _, _, rfl, turn_root HR.out HOP.out HN64.out (fun y hy => ?_), (((HX2.out.setCell (by simp) _).setCell (by simp) _).setCell (by simp) _).setCell (by simp) _⟩
        have := HD.out y hy
        rw [put3_other (by omega), heap_setCell_other _ _ _ _ (show y ≠ w.heap.size by omega)]
        exact HX2.out.block y this
    · have hbz : (at_ == 0) = false := ne_beq haz
      have hlp : 0 < t.kids.length := by
        rcases Nat.eq_zero_or_pos t.kids.length with h | h
        · have h2 := List.eq_nil_of_length_eq_zero h
          have h3 := HA1.out
          rw [Tr.size_eq, h2] at h3
          simp at h3
          omega
        · exact h
      have ha3 : 1 ≤ at_ := by omega
      obtain ⟨i, hi, hz0, hz1, hz2⟩ := info_parts Tryd.info29
      obtain ⟨kb, koff, rfl, hkD, hkx⟩ := HR.out.2.2 (fun e => by rw [e] at hlp; simp at hlp)
      have hkb := HD.out kb hkD
      obtain ⟨xs, hxc, hka⟩ := row_cells t.kids hkx t.kids.length (Nat.le_refl _)
      rw [List.take_length] at hka
      have HXL : Hid (xs.length = t.kids.length * 3) := hide hka.1
      have HXC : Hid (∀ j u, xs[j]? = some u → WW.cell? ⟨kb, koff + j, none⟩ = some u) := hide (fun j u hu => (HX2.out.cell (p := ⟨kb, koff + j, none⟩) hkb).trans (hxc j u hu))
      have HKA : Hid (KidsAt WW D f t.kids xs) := hide (hka.keep (fun y hy => HX2.out.block y (HD.out y hy)) (fun _ h => h))
      clear hka hxc hkx
      go_wp2_with fail
      refine wp_region_boxes (by kernel_rfl) (by kernel_rfl) (fun vs => { tmps := #[.agg #[.int .i64 t.op, .int .i64 t.n, .slice (some ⟨kb, koff, none⟩) t.kids.length cap], .int .i64 (at_ - 1), .int .i64 op, .int .i64 n, .pointer (some ⟨w.heap.size, 0, none⟩), undef, undef, undef, .pointer (some ⟨w.heap.size + 1, 0, none⟩), vs 9, undef, undef, .int .i64 at_, .bool false, undef, undef, undef, undef, undef, undef, undef, undef, .int .i64 at_, .int .i64 (at_ - 1), vs 0, vs 1, vs 2, vs 3, vs 4, vs 5, vs 6, vs 7, vs 8, undef, undef, undef, undef, undef, undef, undef, undef, undef, undef, undef, undef, undef, undef, undef, undef, undef, undef, undef, undef, undef, undef, undef, undef, undef, undef, undef, undef, undef, undef, undef, undef, undef, undef, undef, undef, undef], defers := [] }) (fun i => [undef, undef, undef, undef, undef, undef, undef, undef, undef, undef, undef].getD i undef) [(9, 8, 10)] (by decide) #[.int .i64 0, .int .i64 0, .slice none 0 0] 29 (tuF w.heap.size WW.heap.size D f t (some ⟨kb, koff, none⟩) cap) (tuF.keep w.heap.size WW.heap.size D f t (some ⟨kb, koff, none⟩) cap) ?_ ?_
      · refine ⟨⟨fun _ => ?_, fun x hx h => absurd h (by revert x; decide), fun x hx h => absurd h (by revert x; decide)⟩, ⟨fun _ => ?_, fun x hx h => absurd h (by revert x; decide), fun x hx h => absurd h (by revert x; decide)⟩, ⟨fun _ => ?_, fun x hx h => absurd h (by revert x; decide), fun x hx h => absurd h (by revert x; decide)⟩, ⟨fun _ => ?_, fun x hx h => absurd h (by revert x; decide), fun x hx h => absurd h (by revert x; decide)⟩, ⟨fun _ => ?_, fun x hx h => absurd h (by revert x; decide), fun x hx h => absurd h (by revert x; decide)⟩, ⟨fun _ => ?_, fun x hx h => absurd h (by revert x; decide), fun x hx h => absurd h (by revert x; decide)⟩, ⟨fun _ => ?_, fun x hx h => absurd h (by revert x; decide), fun x hx h => absurd h (by revert x; decide)⟩, ⟨fun _ => ?_, fun x hx h => absurd h (by revert x; decide), fun x hx h => absurd h (by revert x; decide)⟩, ⟨fun _ => ?_, fun x hx h => absurd h (by revert x; decide), fun x hx h => absurd h (by revert x; decide)⟩, ⟨fun h => absurd h (by unfold Plainly; decide), fun x hx h => ?_, fun x hx h => absurd h (by revert x; decide)⟩, ⟨fun h => absurd h (by unfold Plainly; decide), fun x hx h => absurd h (by revert x; decide), fun x hx h => ?_⟩, trivial⟩
        · intro vs wx M K hb hd hM hK
          clear hb hd hM
          go_simp
          exact hK _ _ (Below.refl _ _) rfl
        · intro vs wx M K hb hd hM hK
          obtain ⟨vs, rfl⟩ := put_of (show vs 0 = _ from hd ⟨0, .data⟩ (by simp) rfl (by unfold Plainly; decide))
          obtain ⟨c0, c1, c2⟩ := cells3' hb HX0.out
          clear hb hd hM
          go_simp
          exact hK _ _ (Below.refl _ _) rfl
        · intro vs wx M K hb hd hM hK
          clear hb hd hM
          go_simp
          exact hK _ _ (Below.refl _ _) rfl
        · intro vs wx M K hb hd hM hK
          obtain ⟨vs, rfl⟩ := put_of (show vs 2 = _ from hd ⟨2, .data⟩ (by simp) rfl (by unfold Plainly; decide))
          obtain ⟨c0, c1, c2⟩ := cells3' hb HX0.out
          clear hb hd hM
          go_simp
          exact hK _ _ (Below.refl _ _) rfl
        · intro vs wx M K hb hd hM hK
          have HM := hide hM
          clear hb hd hM
          go_simp
          refine hK _ _ (later_alloc _ _) ⟨_, rfl, heap_alloc_new _ _, fun h => ?_⟩
          have := (HM.out _ h).2
          omega
        · intro vs wx M K hb hd hM hK
          clear hb hd hM
          go_simp
          exact hK _ _ (Below.refl _ _) rfl
        · intro vs wx M K hb hd hM hK
          obtain ⟨vs, rfl⟩ := put_of (show vs 5 = _ from hd ⟨5, .data⟩ (by simp) rfl (by unfold Plainly; decide))
          obtain ⟨c0, c1, c2⟩ := cells3' hb HX0.out
          clear hb hd hM
          go_simp
          exact hK _ _ (Below.refl _ _) rfl
        · intro vs wx M K hb hd hM hK
          obtain ⟨q, eq4, hq4, hM4⟩ := hd ⟨4, .data⟩ (by simp) rfl (by unfold Plainly; decide)
          obtain ⟨vs, rfl⟩ := put_of (show vs 6 = _ from hd ⟨6, .data⟩ (by simp) rfl (by unfold Plainly; decide))
          obtain ⟨vs, rfl⟩ := put_of (show vs 4 = _ from eq4)
          refine step_append_copy (by rfl) (.tmp 28) (.tmp 30) 27 (by rfl) 29 i (.agg #[.int .i64 0, .int .i64 0, .slice none 0 0]) Tryd.underlying27 hi hz0 ⟨q, 0, none⟩ (by rfl) ⟨kb, koff, none⟩ t.kids.length cap xs (by rfl) (by rw [hz1]; exact HXL.out) (fun j u hu => by rw [Addr.add_lit]; exact ((hb.cell (p := ⟨kb, koff + j, none⟩) (by show kb < WW.heap.size; omega)).trans (HXC.out j u hu))) hlp (by unfold maxLen; omega) (by rw [hz2]; omega) ?_
          intro c6 hc6 hc6m
          have hbw : Below wx.heap.size wx (wx.drew.alloc (.cells (xs.toArray ++ Builtin.zeroCells (Value.cells (.agg #[.int .i64 0, .int .i64 0, .slice none 0 0])) (c6 - t.kids.length)) 29)) := later_drew' wx _
          refine hK _ _ hbw ⟨wx.heap.size, c6, rfl, hc6, hc6m, (fun h => Nat.lt_irrefl _ (hM _ h).2), hb.size, (fun y hy h => by have := (hM y h).1; have := HD.out y hy; have := hWs; omega), (fun y hy => by have := HD.out y hy; have := hWs; have := hb.size; have := hbw.size; omega), ?_⟩
          exact RowG.copied HKA.out (fun y hy => (hbw.block y (by have := HD.out y hy; have := hWs; have := hb.size; omega)).trans (hb.block y (by have := HD.out y hy; have := hWs; omega))) (heap_alloc_new wx.drew _)
        · intro vs wx M K hb hd hM hK
          obtain ⟨g, c, e7, r7⟩ := hd ⟨7, .data⟩ (by simp) rfl (by unfold Plainly; decide)
          obtain ⟨vs, rfl⟩ := put_of (show vs 1 = _ from hd ⟨1, .data⟩ (by simp) rfl (by unfold Plainly; decide))
          obtain ⟨vs, rfl⟩ := put_of (show vs 3 = _ from hd ⟨3, .data⟩ (by simp) rfl (by unfold Plainly; decide))
          obtain ⟨vs, rfl⟩ := put_of (show vs 7 = _ from e7)
          have HR7 := hide r7
          clear hb hd hM e7 r7
          go_simp
          exact hK _ _ (Below.refl _ _) ⟨g, c, rfl, HR7.out⟩
        · intro vs wx K hK
          clear hx h
          go_simp
          exact hK
        · obtain rfl : x = (9, 8, 10) := (by revert h; revert x; decide)
          refine ⟨⟨⟨9, .data⟩, by simp, rfl, rfl⟩, ⟨⟨8, .data⟩, by simp, rfl, rfl⟩, ?_⟩
          intro vs wx M K q hF hq hz hK
          obtain ⟨g, c, e8, _⟩ := hF
          obtain ⟨vs, rfl⟩ := put_of (show vs 8 = _ from e8)
          obtain ⟨vs, rfl⟩ := put_of (show vs 9 = _ from hq)
          obtain ⟨y0, y1, y2⟩ := blk3 hz
          obtain ⟨z0, z1, z2⟩ := frz3 hz
          have HZ := hide hz
          clear hq hz hx h e8
          go_simp
          exact hK _ _ (fr_put3 _ _ _ _ _) (put3_blk HZ.out _ _ _) rfl
      · intro vs wy M hb hF hB
        obtain ⟨q, cs, bq, lq, mq, hq, gq⟩ := hB (9, 8, 10) (by simp) (by decide) (by decide)
        obtain ⟨g, c, e8, hco⟩ := hF 8 (by decide) (by unfold Plainly; decide)
        have hcs : cs = #[.int .i64 t.op, .int .i64 t.n, .slice (some ⟨g, 0, none⟩) t.kids.length c] := by
          have h9 := gq.symm.trans e8
          simpa using h9
        subst hcs
        have hgq := copy_apart hco HD.out (show w.heap.size ≤ WW.heap.size by omega) hlp hq
        obtain ⟨hc1, hc2, _, hg1, _, _, hrg⟩ := hco
        obtain ⟨vs, rfl⟩ := put_of (show vs 9 = _ from bq)
        have HG : Hid (RowG wy g f (TuE w D g wy) t.kids) := hide (hrg.keep (fun _ _ => rfl) (fun _ h => Or.inl h))
        have HQ := hide hq
        have HBY : Hid (Below w.heap.size w wy) := HX2.out.trans (hb.mono (by omega))
        have HY1 : Hid (wy.heap[w.heap.size + 1]? = some (.cells #[.int .i64 0, .int .i64 0, .slice none 0 0] 29 (0, 0))) := hide ((hb.block _ (by omega)).trans HX1.out)
        have hg2 : w.heap.size + 2 ≤ g := by omega
        have hq2 : w.heap.size + 2 ≤ q := by omega
        have hgs := hrg.blk.1
        clear hB hF hb hq gq e8 hrg HX0 HX1 HX2 HXC HKA HXL bq
        simp only [put, Nat.reduceEqDiff, reduceIte, ptr]
        generalize vs 0 = s0; generalize vs 1 = s1; generalize vs 2 = s2; generalize vs 3 = s3; generalize vs 4 = s4; generalize vs 5 = s5; generalize vs 6 = s6; generalize vs 7 = s7; generalize vs 8 = s8
        clear vs
        unfold maxLen at hc2
        go_wp2_with fail
        go_loopw [1, 10, 11] (fun av i _ wr => ∃ (k : Nat) (ts : List Tr), k ≤ t.kids.length ∧ i = .int .i64 k ∧ av = .int .i64 (at_ - (szTo t k : Nat)) ∧ ts.length = t.kids.length ∧ Hid (∀ j, k ≤ j → ts[j]? = t.kids[j]?) ∧ Hid (RowG wr g f (TuE w D g wr) ts) ∧ Hid (wr.heap[q]? = some (.cells #[.int .i64 t.op, .int .i64 t.n, .slice (some ⟨g, 0, none⟩) t.kids.length c] 29 (0, 0))) ∧ Hid (wr.heap[w.heap.size + 1]? = some (.cells #[.int .i64 0, .int .i64 0, .slice none 0 0] 29 (0, 0))) ∧ Hid (Below w.heap.size w wr)) (fun _ i _ _ => t.kids.length - (intOf i).toNat)
        case atStart => exact ⟨0, t.kids, Nat.zero_le _, rfl, by simp [szTo], rfl, hide (fun _ _ => rfl), HG, HQ, HY1, HBY⟩
        case round =>
          obtain ⟨k, ts, hk, rfl, rfl, hts, HTS, HGR, HQR, HYR, HBR⟩ := hrel
          clear HG HQ HY1 HBY hgs
          obtain ⟨b0, b1, b2⟩ := blk3 HQR.out
          obtain ⟨hgs, hgf⟩ := HGR.out.blk
          have hsz1 := szTo_le t k
          have hsz2 := HSZ.out
          by_cases hlt : k < t.kids.length
          · have hlt' : k < ts.length := by omega
            have hpk : ts[k] = t.kids[k] := by
              have := HTS.out k (Nat.le_refl _)
              rw [List.getElem?_eq_getElem hlt', List.getElem?_eq_getElem hlt] at this
              exact Option.some.inj this
            obtain ⟨ka, kc, c0, c1, c2, htk⟩ := HGR.out.cells hlt'
            have HSS := hide (szTo_succ t k hlt)
            have HSL := hide (szTo_le t (k + 1))
            rw [hpk] at c0 c1 c2 htk
            obtain ⟨p, hp⟩ : ∃ p, p = t.kids[k] := ⟨_, rfl⟩
            rw [← hp] at c0 c1 c2 htk HSS
            have HP := hide hp
            have hps : p.size ≤ 1000000 := by have := HSS.out; have := HSL.out; omega
            have HPS := hide hps
            have HTK := hide htk
            clear hp htk hpk
            have hEs : Hid (∀ x, TuE w D g wr x → x < wr.heap.size) := hide (fun x hx => by
              have := HBR.out.size
              rcases hx with h | h
              · have := HD.out x h; omega
              · omega)
            go_wp2_with fail
            refine (size_any wr.heap.size f p _ wr (HTK.out.keep (fun _ _ => rfl) hEs.out f _ _) (Nat.le_refl _) HPS.out).mono ?_
            rintro e w3 ⟨rfl, hb3⟩
            have hs3 := hb3.size
            have HG3 : Hid (RowG w3 g f (TuE w D g w3) ts) := hide (HGR.out.keep (fun x hx => hb3.block x (by rcases hx with h | rfl; exact hEs.out x h; exact hgs)) (fun x hx => by rcases hx with h | h; exact Or.inl h; exact Or.inr ⟨h.1, by omega, h.2.2⟩))
            have HQ3 := hide ((hb3.block _ (size_of_block HQR.out)).trans HQR.out)
            have HY3 := hide ((hb3.block _ (size_of_block HYR.out)).trans HYR.out)
            have HB3 : Hid (Below w.heap.size w w3) := HBR.out.trans (hb3.mono HBR.out.size)
            have HT3 : Hid (TmD w3 (TuE w D g w3) f p (.agg #[.int .i64 p.op, .int .i64 p.n, .slice ka p.kids.length kc])) := hide (HTK.out.keep (fun x hx => hb3.block x (hEs.out x hx)) (fun x hx => by rcases hx with h | h; exact Or.inl h; exact Or.inr ⟨h.1, by omega, h.2.2⟩) f _ _)
            have d0 := (hb3.cell (p := ⟨g, k * 3, none⟩) hgs).trans c0
            have d1 := (hb3.cell (p := ⟨g, k * 3 + 1, none⟩) hgs).trans c1
            have d2 := (hb3.cell (p := ⟨g, k * 3 + 2, none⟩) hgs).trans c2
            clear hb3 c0 c1 c2 b0 b1 b2 HGR HQR HYR HBR HTK
            obtain ⟨b0, b1, b2⟩ := blk3 HQ3.out
            obtain ⟨hgs3, hgf3⟩ := HG3.out.blk
            have hE3 : Hid (∀ x, TuE w D g w3 x → x < w3.heap.size) := hide (fun x hx => by
              have := HB3.out.size
              rcases hx with h | h
              · have := HD.out x h; omega
              · omega)
            have hE3' : Hid (¬ TuE w D g w3 g) := hide (fun h => by
              rcases h with h | h
              · have := HD.out g h; omega
              · exact h.2.2 rfl)
            have i1 : (0 : Int) ≤ (k : Int) := by omega
            have i2 : (k : Int) < (t.kids.length : Int) := by omega
            obtain ⟨A, hA⟩ : ∃ A : Int, A = at_ - (szTo t k : Nat) := ⟨_, rfl⟩
            rw [← hA]
            have HAA := hide hA
            have hA1 : -1000000 ≤ A := by omega
            have hA2 : A ≤ 1000000 := by omega
            clear hA
            by_cases hin : 0 ≤ A ∧ A < (p.size : Nat)
            · obtain ⟨hin1, hin2⟩ := hin
              have HC : Hid (Calls Tryd.prog 12 #[.agg #[.int .i64 p.op, .int .i64 p.n, .slice ka p.kids.length kc], .int .i64 A, .int .i64 op, .int .i64 n] w3.drew (TurnOut w3.drew (TuE w D g w3) f)) := hide (IH.out p _ _ A op n w3.drew (TmD.drew HT3.out) hE3.out HPS.out hin1 hin2 HO64.out HN64.out)
              go_wp2_with fail
              go_region_law (first
                | (refine step_call4 (by rfl) 12 (.tmp 60) (.tmp 61) (.tmp 62) (.tmp 63) #[29, 3, 3, 3] (by rfl) cfTu (.agg #[.int .i64 p.op, .int .i64 p.n, .slice ka p.kids.length kc]) (.int .i64 A) (.int .i64 op) (.int .i64 n) (by rfl) (by rfl) (by rfl) (by rfl) _ HC.out ?_
                   rintro e w5 ⟨X, p0, p1, pa, pl, pc, rfl, htm5, hb5⟩
                   refine ⟨_, rfl, ?_⟩
                   have HB5 : Hid (Below w3.heap.size w3 w5) := ⟨hb5.os, hb5.tape, hb5.output, hb5.size, hb5.block⟩
                   have hs5 : w3.heap.size ≤ w5.heap.size := HB5.out.size
                   have HT5 : Hid (TmD w5 (TuE w D g w5) f X (.agg #[.int .i64 p0, .int .i64 p1, .slice pa pl pc])) := htm5.keep (fun _ _ => rfl) (fun x hx => tuE_of hx hs5 (by omega) hgs3) f _ _
                   have HG5 : Hid (RowG w5 g f (TuE w D g w5) ts) := hide (HG3.out.keep (fun x hx => HB5.out.block x (by rcases hx with h | rfl; exact hE3.out x h; exact hgs3)) (fun x hx => tuE_of (Or.inl hx) hs5 (by omega) hgs3))
                   have hE5 : Hid (¬ TuE w D g w5 g) := hide (fun h => by
                     rcases h with h | h
                     · have := HD.out g h; omega
                     · exact h.2.2 rfl)
                   have HQ5 := hide ((HB5.out.block _ (size_of_block HQ3.out)).trans HQ3.out)
                   have HY5 := hide ((HB5.out.block _ (size_of_block HY3.out)).trans HY3.out)
                   have g2 := (blk3 HQ5.out).2.2
                   obtain ⟨ja, jc, v0, v1, v2, _⟩ := HG5.out.cells hlt'
                   have hgf5 := HG5.out.blk.2
                   have f0 := hgf5 (k * 3); have f1 := hgf5 (k * 3 + 1); have f2 := hgf5 (k * 3 + 2)
                   clear htm5 hb5 hgf5))
              all_goals
                have HG6 := hide (HG5.out.put hE5.out hlt' HT5.out)
                have HQ6 := hide ((put3_row (g := g) (a := k * 3) (b := k * 3 + 1) (c := k * 3 + 2) (x := .int .i64 p0) (y := .int .i64 p1) (z := .slice pa pl pc) (show q ≠ g from fun e => hgq e.symm)).trans HQ5.out)
                have HY6 := hide ((put3_row (g := g) (a := k * 3) (b := k * 3 + 1) (c := k * 3 + 2) (x := .int .i64 p0) (y := .int .i64 p1) (z := .slice pa pl pc) (show w.heap.size + 1 ≠ g by omega)).trans HY5.out)
                have HB6 := hide (((((HB3.out.trans (HB5.out.mono HB3.out.size)).setCell (p := ⟨g, k * 3, none⟩) (show w.heap.size ≤ g by omega) (.int .i64 p0)).setCell (p := ⟨g, k * 3 + 1, none⟩) (show w.heap.size ≤ g by omega) (.int .i64 p1)).setCell (p := ⟨g, k * 3 + 2, none⟩) (show w.heap.size ≤ g by omega) (.slice pa pl pc)))
                go_wp2_with fail
                go_roundw
                case rel =>
                  refine ⟨k + 1, ts.set k X, by omega, by go_num, ?_, by rw [List.length_set]; exact hts, hide (fun j hj => by rw [List.getElem?_set_ne (by omega)]; exact HTS.out j (by omega)), ?_, HQ6, HY6, HB6⟩
                  · have := HSS.out; have := HAA.out
                    go_num
                  · exact hide (HG6.out.keep (fun _ _ => rfl) (fun x hx => by
                      rcases hx with h | h
                      · exact Or.inl h
                      · exact Or.inr ⟨h.1, by simpa [World.setCell] using h.2.1, h.2.2⟩))
                case measure => simp [intOf]; omega
            · have hin' : 0 ≤ A → ¬ A < (p.size : Nat) := fun h1 h2 => hin ⟨h1, h2⟩
              clear hin
              by_cases h1 : 0 ≤ A
              · have h2 := hin' h1
                go_wp2_with fail
                go_roundw
                case rel =>
                  refine ⟨k + 1, ts, by omega, by go_num, ?_, hts, hide (fun j hj => HTS.out j (by omega)), HG3, HQ3, HY3, HB3⟩
                  have := HSS.out; have := HAA.out
                  go_num
                case measure => simp [intOf]; omega
              · go_wp2_with fail
                go_roundw
                case rel =>
                  refine ⟨k + 1, ts, by omega, by go_num, ?_, hts, hide (fun j hj => HTS.out j (by omega)), HG3, HQ3, HY3, HB3⟩
                  have := HSS.out; have := HAA.out
                  go_num
                case measure => simp [intOf]; omega
          · obtain ⟨y0, y1, y2⟩ := blk3 HYR.out
            obtain ⟨z0, z1, z2⟩ := frz3 HYR.out
            go_wp2_with fail
            refine bodyPost_ret (v := .agg #[.int .i64 t.op, .int .i64 t.n, .slice (some ⟨g, 0, none⟩) t.kids.length c]) (by simp [results, Tryd.results12, go_sem, y0, y1, y2]) rfl ⟨⟨t.op, t.n, ts⟩, _, _, _, _, _, rfl, ⟨some ⟨g, 0, none⟩, c, by rw [← hts], HOP.out, HN.out, ?_⟩, ((HBR.out.setCell (by simp) _).setCell (by simp) _).setCell (by simp) _⟩
            have HG7 := HGR.out.keep (w' := (((wr.setCell ⟨w.heap.size + 1, 0, none⟩ (.int .i64 t.op)).setCell ⟨w.heap.size + 1, 1, none⟩ (.int .i64 t.n)).setCell ⟨w.heap.size + 1, 2, none⟩ (.slice (some ⟨g, 0, none⟩) t.kids.length c))) (fun x hx => put3_other (by
              rcases hx with (h | h) | h
              · have := HD.out x h; omega
              · omega
              · omega)) (fun _ h => h)
            refine HG7.row (by omega) (by unfold maxLen; omega) (Or.inr ⟨by omega, by simpa [World.setCell] using hgs⟩) (fun x hx => ?_)
            rcases hx with h | h
            · exact Or.inl h
            · exact Or.inr ⟨by omega, by simpa [World.setCell] using h.2.1⟩
#print axioms turned_any
end Go.Proofs.YtpmaagafcpaajaaDoor
