/- Types' rows; loads, stores, new blocks, structs, rows. -/
import Derived.Test.YthklnpkjlepagaaGreatDoorQb
import Derived.Deep.MidRow
import Derived.Great.BuildSlice
import Derived.Laws.CopyRow
import Derived.Laws.MakeOwn
namespace Go.Proofs.YthklnpkjlepagaaGreatDoor.Ab
open Go.RowKit

/-- A type's row: kind 1 a struct, 2 an array, 3 a slice, 4 an integer, 5 a string, 6 a pointer, 7 an interface, 8 a tuple, 9 a function, 10 a map, 0 another one; its zero value's cells by their numbers (zv); elem, len: of an array, a slice, a pointer; fields: where each begins, of which type. -/
structure TI where
  kind : Nat
  size : Nat
  bytes : Nat
  zero : List Nat
  elem : Nat
  len : Nat
  fields : List (Nat × Nat)

def zv : Nat → Value
  | 0 => .int .i64 0
  | 1 => .bool false
  | 2 => .string ByteArray.empty
  | 3 => .pointer none
  | 4 => .slice none 0 0
  | 5 => .nilFunc
  | 6 => .nilIface
  | 7 => .int .u8 0
  | 8 => .int .i8 0
  | 9 => .map none
  | 10 => .int .i32 0
  | 11 => .int .u64 0
  | 12 => .int .u32 0
  | _ => .tuple #[]
def zB (v : Value) (c : Nat) : Bool := match v with
  | .int .i64 (.ofNat 0) => decide (c = 0)
  | .bool false => decide (c = 1)
  | .string s => decide (s.size = 0) && decide (c = 2)
  | .pointer none => decide (c = 3)
  | .slice none 0 0 => decide (c = 4)
  | .nilFunc => decide (c = 5)
  | .nilIface => decide (c = 6)
  | .int .u8 (.ofNat 0) => decide (c = 7)
  | .int .i8 (.ofNat 0) => decide (c = 8)
  | .map none => decide (c = 9)
  | .int .i32 (.ofNat 0) => decide (c = 10)
  | .int .u64 (.ofNat 0) => decide (c = 11)
  | .int .u32 (.ofNat 0) => decide (c = 12)
  | _ => false
theorem zB_eq {v : Value} {c : Nat} (h : zB v c = true) : v = zv c := by
  unfold zB at h
  split at h <;> simp at h <;> first | (subst h; rfl) | (obtain ⟨rfl, rfl⟩ := h; rfl)
def zsB : List Value → List Nat → Bool
  | [], [] => true
  | v :: vs, c :: cs => zB v c && zsB vs cs
  | _, _ => false
theorem zsB_eq : ∀ {vs : List Value} {cs : List Nat}, zsB vs cs = true → vs = cs.map zv
  | [], [], _ => rfl
  | v :: vs, c :: cs, h => by
    simp only [zsB, Bool.and_eq_true] at h
    rw [zB_eq h.1, zsB_eq h.2, List.map_cons]
  | [], _ :: _, h => by simp [zsB] at h
  | _ :: _, [], h => by simp [zsB] at h

def fieldsB : List Field → List (Nat × Nat) → Bool
  | [], [] => true
  | f :: fs, p :: ps => decide (f.offset = p.1) && decide (f.type = p.2) && fieldsB fs ps
  | _, _ => false
def kindB (d : TypeDesc) (ti : TI) : Bool := match d with
  | .struct fs => decide (ti.kind = 1) && fieldsB fs.toList ti.fields
  | .array n e => decide (ti.kind = 2) && decide (n = ti.len) && decide (e = ti.elem)
  | .slice e => decide (ti.kind = 3) && decide (e = ti.elem)
  | .int _ => decide (ti.kind = 4)
  | .string => decide (ti.kind = 5)
  | .pointer e => decide (ti.kind = 6) && decide (e = ti.elem)
  | .interface _ => decide (ti.kind = 7)
  | .tuple _ => decide (ti.kind = 8)
  | .func _ _ _ => decide (ti.kind = 9)
  | .map k e => decide (ti.kind = 10) && decide (k = ti.len) && decide (e = ti.elem)
  | _ => decide (ti.kind = 0)
def tiB (P : Program) (t : Nat) (ti : TI) : Bool := match P.info? t, P.underlying t with
  | some i, some d => decide (i.size = ti.size) && decide (i.bytes = ti.bytes) && kindB d ti && (match i.zero with
    | some z => zsB z.cells.toList ti.zero
    | none => false)
  | _, _ => false

/-- What a type's row says is so. -/
structure TOk (P : Program) (t : Nat) (ti : TI) where
  i : TypeInfo
  d : TypeDesc
  z : Value
  hi : P.info? t = some i
  hd : P.underlying t = some d
  size : i.size = ti.size
  bytes : i.bytes = ti.bytes
  hz : i.zero = some z
  zero : z.cells.toList = ti.zero.map zv
  kind : kindB d ti = true

theorem tiB_ok {P : Program} {t : Nat} {ti : TI} (h : tiB P t ti = true) : Nonempty (TOk P t ti) := by
  unfold tiB at h
  split at h
  · rename_i i d hi hd
    simp only [Bool.and_eq_true, decide_eq_true_eq] at h
    obtain ⟨⟨⟨h1, h2⟩, h3⟩, h4⟩ := h
    cases hz : i.zero with
    | none => rw [hz] at h4; cases h4
    | some z =>
      rw [hz] at h4
      exact ⟨⟨i, d, z, hi, hd, h1, h2, hz, zsB_eq h4, h3⟩⟩
  · cases h

/-- The tables: types' rows, sixteen a row; functions; the variables that are known. -/
structure Tabs where
  ti : List (List (Option TI))
  fns : List (List Func)
  glob : List (Nat × AV)

def Tabs.tiAt (T : Tabs) (t : Nat) : Option TI := match T.ti[t / 16]? with
  | some l => match l[t % 16]? with
    | some x => x
    | none => none
  | none => none
def Tabs.fnAt (T : Tabs) (f : Nat) : Option Func := match T.fns[f / 16]? with
  | some l => l[f % 16]?
  | none => none
def rowsOk : List (List Func) → Bool
  | [] => true
  | [_] => true
  | l :: r :: rest => decide (l.length = 16) && rowsOk (r :: rest)
theorem rows_get : ∀ {rows : List (List Func)} {f : Nat} {l : List Func} {fn : Func}, rowsOk rows = true → rows[f / 16]? = some l → l[f % 16]? = some fn → rows.flatten[f]? = some fn
  | [], f, l, fn, _, h, _ => by simp at h
  | l0 :: rest, f, l, fn, hr, h, hl => by
    by_cases hf : f < 16
    · rw [show f / 16 = 0 by omega] at h
      simp at h
      subst h
      rw [show f % 16 = f by omega] at hl
      have hlt : f < l0.length := by
        rcases Nat.lt_or_ge f l0.length with h | h
        · exact h
        · rw [List.getElem?_eq_none h] at hl; cases hl
      rw [List.flatten_cons, List.getElem?_append_left hlt]
      exact hl
    · rw [show f / 16 = (f - 16) / 16 + 1 by omega, List.getElem?_cons_succ] at h
      match rest, h, hr with
      | [], h, _ => simp at h
      | r :: rest, h, hr =>
        simp only [rowsOk, Bool.and_eq_true, decide_eq_true_eq] at hr
        rw [List.flatten_cons, List.getElem?_append_right (by omega), hr.1]
        exact rows_get hr.2 h (by rw [show (f - 16) % 16 = f % 16 by omega]; exact hl)
/-- The table of functions is the program's. -/
def FnsOk (P : Program) (T : Tabs) : Prop := ∀ f fn, T.fnAt f = some fn → P.funcs[f]? = some fn
theorem fnsOk_of {P : Program} {T : Tabs} (h : P.funcs.toList = T.fns.flatten) (hr : rowsOk T.fns = true) : FnsOk P T := by
  intro f fn hf
  unfold Tabs.fnAt at hf
  split at hf
  · rename_i l hl
    rw [← Array.getElem?_toList, h]
    exact rows_get hr hl hf
  · cases hf

def chkRow {α : Type} (p : Nat → α → Bool) : Nat → List (Option α) → Bool
  | _, [] => true
  | n, x :: xs => (match x with | some a => p n a | none => true) && chkRow p (n + 1) xs
def chkTab {α : Type} (p : Nat → α → Bool) : Nat → List (List (Option α)) → Bool
  | _, [] => true
  | n, l :: ls => chkRow p (n * 16) l && chkTab p (n + 1) ls
theorem chkRow_get {α : Type} {p : Nat → α → Bool} : ∀ {l : List (Option α)} {n i : Nat} {a : α}, chkRow p n l = true → l[i]? = some (some a) → p (n + i) a = true
  | x :: xs, n, 0, a, h, hi => by
    simp at hi; subst hi
    simp only [chkRow, Bool.and_eq_true] at h
    exact h.1
  | x :: xs, n, i + 1, a, h, hi => by
    simp only [chkRow, Bool.and_eq_true] at h
    have := chkRow_get h.2 (i := i) (a := a) (by simpa using hi)
    rwa [show n + 1 + i = n + (i + 1) by omega] at this
  | [], _, _, _, _, hi => by simp at hi
theorem chkTab_get {α : Type} {p : Nat → α → Bool} : ∀ {ls : List (List (Option α))} {n j : Nat} {l : List (Option α)}, chkTab p n ls = true → ls[j]? = some l → chkRow p ((n + j) * 16) l = true
  | x :: xs, n, 0, l, h, hi => by
    simp at hi; subst hi
    simp only [chkTab, Bool.and_eq_true] at h
    exact h.1
  | x :: xs, n, j + 1, l, h, hi => by
    simp only [chkTab, Bool.and_eq_true] at h
    have := chkTab_get h.2 (j := j) (l := l) (by simpa using hi)
    rwa [show n + 1 + j = n + (j + 1) by omega] at this
  | [], _, _, _, _, hi => by simp at hi

/-- The tables are right: types. -/
def TabOk (P : Program) (T : Tabs) : Prop := ∀ t ti, T.tiAt t = some ti → Nonempty (TOk P t ti)
theorem tabOk_of {P : Program} {T : Tabs} (h : chkTab (tiB P) 0 T.ti = true) : TabOk P T := by
  intro t ti ht
  unfold Tabs.tiAt at ht
  split at ht
  · rename_i l hl
    split at ht
    · rename_i x hx
      subst ht
      have h1 := chkTab_get h hl
      have h2 := chkRow_get h1 hx
      rw [show (0 + t / 16) * 16 + t % 16 = t by omega] at h2
      exact tiB_ok h2
    · cases ht
  · cases ht

def isAggV : Value → Bool
  | .agg _ => true
  | _ => false
/-- The cells of a value. -/
def AV.cells (x : AV) : Option (List AV) := if x.t = 1 then some x.ks else if x.t = 2 then none else if x.t = 11 ∨ x.t = 12 then none else if x.t = 0 then (if isAggV x.v then none else some [x]) else some [x]
/-- Is it a value of one cell? -/
def AV.one (x : AV) : Bool := if x.t = 0 then x.v.oneCell' else decide (x.t = 3) || decide (x.t = 4) || decide (x.t = 5) || decide (x.t = 6) || decide (x.t = 7) || decide (x.t = 8) || decide (x.t = 9) || decide (x.t = 10) || decide (x.t = 13) || decide (x.t = 14) || decide (x.t = 17)

theorem RV.tags {C : Cx} {x : AV} {v : Value} (h : RV C x v) : x.t = 0 ∨ x.t = 1 ∨ x.t = 2 ∨ x.t = 3 ∨ x.t = 4 ∨ x.t = 5 ∨ x.t = 6 ∨ x.t = 7 ∨ x.t = 8 ∨ x.t = 9 ∨ x.t = 10 ∨ x.t = 11 ∨ x.t = 12 ∨ x.t = 13 ∨ x.t = 14 ∨ x.t = 17 := by
  obtain ⟨f, hf⟩ := h
  match f, hf with
  | 0, hf => exact hf.elim
  | f + 1, hf =>
    have h13 : 13 ≤ x.t → HiR C x v := hf.2.2.2.2.2.2.2.2.2.2.2.2
    have : x.t ≤ 14 ∨ x.t = 17 := by
      rcases Nat.lt_or_ge x.t 13 with h | h
      · omega
      · exact (h13 h).le
    omega
theorem rv_one {C : Cx} {x : AV} {v : Value} (h : RV C x v) (ho : x.one = true) : v.oneCell' = true := by
  obtain ⟨g0, g1, g2, g3, g4, g5, g6, g7, g8, g9, g10, g12⟩ := h.case
  unfold AV.one at ho
  split at ho
  · rename_i e; rw [g0 e]; exact ho
  · simp only [Bool.or_eq_true, decide_eq_true_eq] at ho
    rcases ho with (((((((((ho | ho) | ho) | ho) | ho) | ho) | ho) | ho) | ho) | ho) | ho
    · rw [(g3 ho).1]; rfl
    · obtain ⟨_, _, _, r, _⟩ := g4 ho; rw [r]; rfl
    · obtain ⟨_, _, _, r, _⟩ := g5 ho; rw [r]; rfl
    · obtain ⟨_, _, r⟩ := g6 ho; rw [r]; rfl
    · obtain ⟨_, _, _, r, _⟩ := g7 ho; rw [r]; rfl
    · obtain ⟨_, _, _, _, r, _⟩ := g8 ho; rw [r]; rfl
    · obtain ⟨_, _, _, _, r, _⟩ := g9 ho; rw [r]; rfl
    · obtain ⟨_, r, _⟩ := g10 ho; rw [r]; rfl
    · rw [((h.hi (by omega)).mp ho).1]; rfl
    · obtain ⟨_, r⟩ := ((h.hi (by omega)).int ho).2; rw [r]; rfl
    · obtain ⟨_, r⟩ := (h.hi (by omega)).ub ho; rw [r]; rfl
theorem rl_one {C : Cx} {xs : List AV} {vs : List Value} (h : RL C xs vs) (ho : xs.all AV.one = true) : ∀ v ∈ vs, v.oneCell' = true := by
  intro v hv
  obtain ⟨i, hi, rfl⟩ := List.mem_iff_getElem.1 hv
  have hl := h.len
  have hx : xs[i]? = some xs[i] := List.getElem?_eq_getElem (by omega)
  obtain ⟨b, hb, hr⟩ := All2.get h hx
  rw [List.getElem?_eq_getElem hi] at hb
  cases hb
  exact rv_one hr (List.all_eq_true.1 ho _ (List.getElem_mem _))
theorem rv_cells {C : Cx} {x : AV} {v : Value} {ks : List AV} (h : RV C x v) (hk : x.cells = some ks) : RL C ks v.cells.toList := by
  obtain ⟨g0, g1, g2, g3, g4, g5, g6, g7, g8, g9, g10, g12⟩ := h.case
  unfold AV.cells at hk
  split at hk
  · rename_i e
    obtain ⟨us, rfl, r⟩ := g1 e
    cases hk
    exact r
  · split at hk
    · cases hk
    · split at hk
      · cases hk
      · split at hk
        · rename_i e
          split at hk
          · cases hk
          · rename_i hn
            cases hk
            have e2 := g0 e
            have : v.cells.toList = [v] := by
              rw [← e2] at hn
              cases v <;> first | rfl | exact absurd rfl hn
            rw [this]
            exact ⟨h, trivial⟩
        · rename_i e1 e2 e11 e0
          cases hk
          have : v.cells.toList = [v] := by
            have ht := h.tags
            rcases ht with e | e | e | e | e | e | e | e | e | e | e | e | e | e | e | e <;> first | exact absurd e ‹_› | exact absurd (Or.inl e) ‹_› | exact absurd (Or.inr e) ‹_› | skip
            · rw [(g3 e).1]; rfl
            · obtain ⟨_, _, _, r, _⟩ := g4 e; rw [r]; rfl
            · obtain ⟨_, _, _, r, _⟩ := g5 e; rw [r]; rfl
            · obtain ⟨_, _, r⟩ := g6 e; rw [r]; rfl
            · obtain ⟨_, _, _, r, _⟩ := g7 e; rw [r]; rfl
            · obtain ⟨_, _, _, _, r, _⟩ := g8 e; rw [r]; rfl
            · obtain ⟨_, _, _, _, r, _⟩ := g9 e; rw [r]; rfl
            · obtain ⟨_, r, _⟩ := g10 e; rw [r]; rfl
            · rw [((h.hi (by omega)).mp e).1]; rfl
            · obtain ⟨_, r⟩ := ((h.hi (by omega)).int e).2; rw [r]; rfl
            · obtain ⟨_, r⟩ := (h.hi (by omega)).ub e; rw [r]; rfl
          rw [this]
          exact ⟨h, trivial⟩

theorem rl_zeros {C : Cx} : ∀ (cs : List Nat), RL C (cs.map fun c => AV.ex (zv c)) (cs.map zv)
  | [] => trivial
  | _ :: cs => ⟨rv_ex, rl_zeros cs⟩

/-- The cells that a pointer points to. -/
def ptrCells (H : Hp) (x : AV) : Option (List AV) := if x.t = 4 then some x.ks else if x.t = 3 then (match H.get x.a with
  | some B => some (B.cs.drop x.b)
  | none => none) else none
theorem ptrCells_ok {C : Cx} (hC : Ok C) {x : AV} {v : Value} {ks : List AV} (h : RV C x v) (hk : ptrCells C.H x = some ks) : ∃ k off us, v = .pointer (some ⟨k, off, none⟩) ∧ RL C ks us ∧ ∀ (i : Nat) (u : Value), us[i]? = some u → C.w.cell? ⟨k, off + i, none⟩ = some u := by
  obtain ⟨_, _, _, g3, g4, _⟩ := h.case
  unfold ptrCells at hk
  split at hk
  · rename_i e
    obtain ⟨k, off, us, r, i, a⟩ := g4 e
    cases hk
    exact ⟨k, off, us, r, a, i.2⟩
  · split at hk
    · rename_i e
      split at hk
      · rename_i B hB
        cases hk
        obtain ⟨_, _, cs0, ty0, hcell⟩ := g3 e
        obtain ⟨_, cs, h2, h3, h4⟩ := hC.cellsAt hB hcell
        refine ⟨C.mu x.a, x.b, _, (g3 e).1, All2.drop x.b h4, fun i u hu => ?_⟩
        rw [cell_of_row _ _ _ _ _ _ h2]
        rw [List.getElem?_drop, List.getElem?_take] at hu
        split at hu
        · simpa using hu
        · cases hu
      · cases hk
    · cases hk

theorem kind_row {d : TypeDesc} {ti : TI} (h : kindB d ti = true) (hk : ti.kind = 1 ∨ ti.kind = 2) : d.isRow = true := by
  unfold kindB at h
  split at h <;> simp_all
theorem kind_not {d : TypeDesc} {ti : TI} (h : kindB d ti = true) (h1 : ti.kind ≠ 1) (h2 : ti.kind ≠ 2) : d.isRow = false := by
  cases d <;> simp_all [kindB]

def xLoad (T : Tabs) (H : Hp) (t : Nat) (x : AV) : Option AV := (T.tiAt t).bind fun ti => (ptrCells H x).bind fun cs =>
  if ti.kind = 1 ∨ ti.kind = 2 then (if ti.size ≤ cs.length then some (AV.agg (cs.take ti.size)) else none) else cs.head?
theorem xLoad_ok {P : Program} {T : Tabs} (hT : TabOk P T) {C : Cx} (hC : Ok C) {t : Nat} {x y : AV} {v : Value} (h : RV C x v) (hy : xLoad T C.H t x = some y) : ∃ u, (Instr.loadAt t v).run P C.w = .ok u C.w ∧ RV C y u := by
  unfold xLoad at hy
  obtain ⟨ti, h1, hy⟩ := Option.bind_eq_some_iff.1 hy
  obtain ⟨cs, h2, hy⟩ := Option.bind_eq_some_iff.1 hy
  obtain ⟨k, off, us, rfl, hr, hu⟩ := ptrCells_ok hC h h2
  obtain ⟨tk⟩ := hT t ti h1
  split at hy
  · rename_i hk
    split at hy
    · rename_i hl
      cases hy
      have hlen := hr.len
      refine ⟨.agg (us.take ti.size).toArray, run_loadAt_mid C.w k off t (us.take ti.size) tk.d (fun j u hj => hu j u ?_) tk.hd (kind_row tk.kind hk) ?_, rv_agg ?_⟩
      · rw [List.getElem?_take] at hj
        split at hj
        · exact hj
        · cases hj
      · rw [tk.hi, Option.map_some, tk.size, List.length_take]; congr 1; omega
      · exact All2.take _ hr
    · cases hy
  · rename_i hk
    cases cs with
    | nil => cases hy
    | cons c cs =>
      cases us with
      | nil => exact hr.elim
      | cons u us =>
        simp at hy
        subst hy
        refine ⟨u, ?_, hr.1⟩
        have hagg : (isAgg t).run P C.w = .ok false C.w := by
          unfold isAgg
          rw [Sem.run_bind, run_underlying tk.hd C.w]
          have := kind_not tk.kind (fun e => hk (Or.inl e)) (fun e => hk (Or.inr e))
          cases hd : tk.d <;> simp_all
        have hc := hu 0 u rfl
        simp only [Nat.add_zero] at hc
        simp [Instr.loadAt, Instr.sureAddr, loadVar, hagg, load, Sem.run, hc]

/-- What an operation comes to: a value, blocks, how many numbers, the numbers of old blocks that were written. -/
structure Out where
  x : AV
  H : Hp
  n : Nat
  wr : Nat

/-- All numbers of blocks are below n. -/
def HB (H : Hp) (n : Nat) : Prop := ∀ b B, H.get b = some B → b < n
/-- What holds of the blocks of what an operation comes to. -/
structure Tidy (H : Hp) (n : Nat) (o : Out) : Prop where
  le : n ≤ o.n
  bnd : HB H n → HB o.H o.n
  keep : HB H n → ∀ b, b < n → o.wr.testBit b = false → o.H.get b = H.get b
  had : HB H n → ∀ b, o.wr.testBit b = true → b < n → ∃ B, H.get b = some B

theorem tidy_same {H : Hp} {n : Nat} {x : AV} : Tidy H n ⟨x, H, n, 0⟩ := ⟨Nat.le_refl _, fun h => h, fun _ _ _ _ => rfl, fun _ _ h => no_bit h⟩

/-- The numbers from n to n' are new; none of them is there. -/
def NewA (C C' : Cx) (n n' : Nat) : Prop := ∀ b, C'.A b → C.A b ∨ (n ≤ b ∧ b < n')
def FreeA (C : Cx) (n n' : Nat) : Prop := ∀ b, n ≤ b → b < n' → ¬ C.A b
theorem newA_same {C C' : Cx} {n : Nat} (h : C'.A = C.A) : NewA C C' n n := fun b hb => Or.inl (by rw [h] at hb; exact hb)
theorem newA_one {C C' : Cx} {n : Nat} (h : C'.A = fun b => C.A b ∨ b = n) : NewA C C' n (n + 1) := fun b hb => by
  rw [h] at hb
  rcases hb with hb | hb
  · exact Or.inl hb
  · exact Or.inr (by omega)
def xNew (H : Hp) (n t : Nat) (ks : List AV) : Out := ⟨AV.ptr n 0, H.set n (some ⟨t, ks⟩), n + 1, 0⟩
theorem neu_mu (C : Cx) (n : Nat) (o : Obj) (B : Blk) : (C.neu n o B).mu n = C.w.heap.size := if_pos rfl
theorem xNew_ok {C : Cx} (hC : Ok C) {n t : Nat} (hn : ¬ C.A n) {ks : List AV} {us : Array Value} (h : RL C ks us.toList) :
    ∃ C', C'.w = C.w.alloc (.cells us t) ∧ RV C' (AV.ptr n 0) (.pointer (some ⟨C.w.heap.size, 0, none⟩)) ∧ Goes C C' ∧ C'.H = (xNew C.H n t ks).H ∧ NewA C C' n (n + 1) := by
  refine ⟨C.neu n (.cells us t) ⟨t, ks⟩, rfl, ?_, hC.new hn h, rfl, newA_one rfl⟩
  have := rv_ptr (C := C.neu n (.cells us t) ⟨t, ks⟩) (a := n) (b := 0) (Or.inr rfl) (cs := us) (ty := t) (by rw [neu_mu]; exact heap_alloc_new _ _)
  rw [neu_mu] at this
  exact this
theorem hb_set {H : Hp} {n : Nat} {B : Blk} (h : HB H n) : HB (H.set n (some B)) (n + 1) := fun b B' hb => by
  rw [Hp.get_set] at hb
  split at hb
  · omega
  · have := h b B' hb; omega
theorem hb_old {H : Hp} {n a : Nat} {B : Blk} {B0 : Option Blk} (ha : H.get a = some B) (h : HB H n) : HB (H.set a B0) n := fun b B' hb => by
  rw [Hp.get_set] at hb
  split at hb
  · rename_i e; subst e; exact h _ _ ha
  · exact h b B' hb
theorem xNew_tidy (H : Hp) (n t : Nat) (ks : List AV) : Tidy H n (xNew H n t ks) := ⟨Nat.le_succ _, hb_set, fun _ b hb _ => Hp.get_other _ _ (by omega), fun _ _ h => no_bit h⟩

/-- A store. -/
def xStore (T : Tabs) (H : Hp) (n t : Nat) (x y : AV) : Option Out := (T.tiAt t).bind fun ti => y.cells.bind fun ks => if x.t = 3 then (H.get x.a).bind fun B =>
  if ks.length = ti.size ∧ ks.all AV.one = true ∧ x.b + ks.length ≤ B.cs.length then some ⟨AV.ex undef, H.set x.a (some ⟨B.ty, B.cs.take x.b ++ ks ++ B.cs.drop (x.b + ks.length)⟩), n, bit1 x.a⟩ else none else none
theorem xStore_tidy {T : Tabs} {H : Hp} {n t : Nat} {x y : AV} {o : Out} (h : xStore T H n t x y = some o) : Tidy H n o := by
  unfold xStore at h
  obtain ⟨ti, h1, h⟩ := Option.bind_eq_some_iff.1 h
  obtain ⟨ks, h2, h⟩ := Option.bind_eq_some_iff.1 h
  split at h
  · obtain ⟨B, h3, h⟩ := Option.bind_eq_some_iff.1 h
    split at h
    · cases h
      exact ⟨Nat.le_refl _, hb_old h3, fun _ b _ hn => Hp.get_other _ _ (fun e => by rw [bit1_iff.2 e.symm] at hn; cases hn), fun _ b hb _ => by rw [bit1_iff.1 hb]; exact ⟨B, h3⟩⟩
    · cases h
  · cases h
theorem xStore_ok {P : Program} {T : Tabs} (hT : TabOk P T) {C : Cx} (hC : Ok C) {t : Nat} {x y : AV} {v u : Value} (hx : RV C x v) (hy : RV C y u) {o : Out} {n : Nat} (h : xStore T C.H n t x y = some o) :
    ∃ C', (Instr.storeAt t v u).run P C.w = .ok () C'.w ∧ Goes C C' ∧ C'.H = o.H ∧ NewA C C' n o.n := by
  unfold xStore at h
  obtain ⟨ti, h1, h⟩ := Option.bind_eq_some_iff.1 h
  obtain ⟨ks, h2, h⟩ := Option.bind_eq_some_iff.1 h
  split at h
  · rename_i e
    obtain ⟨B, h3, h⟩ := Option.bind_eq_some_iff.1 h
    split at h
    · rename_i hc
      cases h
      obtain ⟨tk⟩ := hT t ti h1
      obtain ⟨rfl, ha, _, _, hcell⟩ := hx.case.2.2.2.1 e
      have hr := rv_cells hy h2
      obtain ⟨_, cs, k2, k3, k4⟩ := hC.cellsAt h3 hcell
      have hlen : ks.length = u.cells.size := by simpa using hr.len
      have hlen2 := k4.len
      simp at hlen2
      have hst := run_storeCells_at (P := P) (C.mu x.a) x.b B.ty u.cells.toList 0 cs C.w k2 (by simp; omega) (rl_one hr hc.2.1)
      refine ⟨{ C with w := C.w.setRow (C.mu x.a) (cs.toList.take x.b ++ u.cells.toList ++ cs.toList.drop (x.b + ks.length)).toArray, H := C.H.set x.a (some ⟨B.ty, B.cs.take x.b ++ ks ++ B.cs.drop (x.b + ks.length)⟩) }, ?_, ?_, rfl, newA_same rfl⟩
      · have hsz : ¬ u.cells.size ≠ ti.size := by omega
        simp only [Nat.add_zero, Array.length_toList, ← hlen] at hst
        simp [Instr.storeAt, Instr.sureAddr, storeVar, sizeOf, typeInfo, tk.hi, tk.size, hst, ← hlen, hc.1]
      · refine hC.put h3 (cs := cs) (us := (cs.toList.take x.b ++ u.cells.toList ++ cs.toList.drop (x.b + ks.length)).toArray) k2 ?_ ?_ ?_ (by simp) (setRow_heap _ _ _ _ _ _ k2) (fun j hj => setRow_other _ _ _ _ hj) ⟨rfl, rfl, rfl⟩
        · simp; omega
        · simp; omega
        · have e1 : (B.cs.take x.b ++ ks ++ B.cs.drop (x.b + ks.length)).length = B.cs.length := by simp; omega
          rw [e1]
          have e2 : ((cs.toList.take x.b ++ u.cells.toList ++ cs.toList.drop (x.b + ks.length)).toArray.toList.take B.cs.length) = (cs.toList.take B.cs.length).take x.b ++ u.cells.toList ++ (cs.toList.take B.cs.length).drop (x.b + ks.length) := by
            rw [List.toList_toArray, List.take_append, List.take_append, List.take_take, List.drop_take]
            congr 1
            · congr 1
              · rw [List.take_take]
                congr 1
                omega
              · rw [List.take_of_length_le]; simp; omega
            · congr 1
              simp; omega
          rw [e2]
          exact All2.app (All2.app (All2.take _ k4) hr) (All2.drop _ k4)
    · cases h
  · cases h
#print axioms xStore_ok
end Go.Proofs.YthklnpkjlepagaaGreatDoor.Ab
