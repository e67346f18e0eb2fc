/- Blocks that are no cells, beside what is known: the record of a range over a function, the block of its rounds' deferred calls. A function that leaves with such a mark. -/
import Derived.Test.YthklnpkjlepagaaGreatDoorQj
import Derived.RangeFuncRecord
import Derived.RangeFuncCalls
import Derived.RangeFuncLeaves
namespace Go.Proofs.YthklnpkjlepagaaGreatDoor.Ab
open Go.RowKit
variable {S : Nat → Value}

/-- A block of which nothing is known. -/
structure Side (C : Cx) (l : Nat) (o : Obj) : Prop where
  at_ : C.w.heap[l]? = some o
  oth : C.Oth l
  z : ¬ C.Z l
theorem Side.lt {C : Cx} {l : Nat} {o : Obj} (h : Side C l o) : l < C.w.heap.size := by
  obtain ⟨h1, _⟩ := Array.getElem?_eq_some_iff.1 h.at_
  exact h1
theorem Side.goes {C C' : Cx} {l : Nat} {o : Obj} (h : Side C l o) (g : Goes C C') : Side C' l o := by
  obtain ⟨h1, h2⟩ := g.oth l h.lt h.oth
  exact ⟨h1.trans h.at_, h2, fun hz => h.z (g.zold l h.lt hz)⟩

/-- One context behind another one, but for the block l. -/
structure Gx (l : Nat) (C C' : Cx) : Prop where
  le : C.le C'
  ok : Ok C'
  s3 : Same3 C.w C'.w
  oth : ∀ k, k ≠ l → k < C.w.heap.size → C.Oth k → C'.w.heap[k]? = C.w.heap[k]? ∧ C'.Oth k
  zold : ∀ k, k < C.w.heap.size → C'.Z k → C.Z k
theorem Goes.gx {C C' : Cx} (g : Goes C C') (l : Nat) : Gx l C C' := ⟨g.le, g.ok, g.s3, fun k _ => g.oth k, g.zold⟩
theorem Gx.trans {l : Nat} {A B C : Cx} (h : Gx l A B) (g : Gx l B C) : Gx l A C where
  le := h.le.trans g.le
  ok := g.ok
  s3 := h.s3.trans g.s3
  oth k hl hk ho := by
    obtain ⟨h1, h2⟩ := h.oth k hl hk ho
    obtain ⟨g1, g2⟩ := g.oth k hl (Nat.lt_of_lt_of_le hk h.le.size) h2
    exact ⟨g1.trans h1, g2⟩
  zold k hk hz := h.zold k hk (g.zold k (Nat.lt_of_lt_of_le hk h.le.size) hz)
theorem Gx.goes {l : Nat} {C C' : Cx} (g : Gx l C C') (hl : C.w.heap.size ≤ l) : Goes C C' := ⟨g.le, g.ok, g.s3, fun k hk => g.oth k (by omega) hk, g.zold⟩
theorem Side.gx {C C' : Cx} {k l : Nat} {o : Obj} (h : Side C k o) (g : Gx l C C') (hk : k ≠ l) : Side C' k o := by
  obtain ⟨h1, h2⟩ := g.oth k hk h.lt h.oth
  exact ⟨h1.trans h.at_, h2, fun hz => h.z (g.zold k h.lt hz)⟩

/-- The block l turned. -/
def Cx.put (C : Cx) (l : Nat) (o : Obj) : Cx := { C with w := C.w.putObj l o }
theorem Side.put {C : Cx} {l : Nat} {o : Obj} (hC : Ok C) (h : Side C l o) (o' : Obj) (hn : o.isCells = false) : Gx l C (C.put l o') ∧ Side (C.put l o') l o' := by
  have hoth : ∀ k, k ≠ l → (C.put l o').w.heap[k]? = C.w.heap[k]? := fun k hk => World.putObj_heap_other hk
  have le : C.le (C.put l o') := ⟨fun _ h => h, fun _ _ => rfl, by show _ ≤ (C.w.putObj l o').heap.size; simp, fun k hk => ⟨⟨by show k < (C.w.putObj l o').heap.size; simpa using hk.1, hk.2⟩, hoth k fun e => h.z (e ▸ hk.2)⟩, fun k cs ty fr hk => ⟨cs, (hoth k fun e => by
    subst e
    rw [h.at_] at hk
    cases hk
    cases hn).trans hk, rfl⟩, rfl⟩
  refine ⟨⟨le, ⟨fun b B hb => ?_, hC.inj, hC.zone⟩, ⟨rfl, rfl, rfl⟩, fun k hk _ ho => ⟨hoth k hk, ho⟩, fun _ _ h => h⟩, World.putObj_heap_same h.lt, h.oth, h.z⟩
  obtain ⟨h1, h2⟩ := hC.blk b B hb
  exact ⟨h1, h2.mono le (hoth _ (h.oth b B hb))⟩

/-- A new block of which nothing is known. -/
def Cx.beside (C : Cx) (o : Obj) : Cx := { C with w := C.w.alloc o, Z := fun k => C.Z k ∧ k < C.w.heap.size }
theorem Ok.beside {C : Cx} (h : Ok C) (o : Obj) : Goes C (C.beside o) ∧ Side (C.beside o) C.w.heap.size o := by
  have le : C.le (C.beside o) := ⟨fun _ h => h, fun _ _ => rfl, by show _ ≤ (C.w.alloc _).heap.size; simp, fun k hk => ⟨⟨by show k < (C.w.alloc _).heap.size; have := hk.1; simp; omega, hk.2, hk.1⟩, Below.heap_alloc _ _ _ hk.1⟩, fun k cs t fr hk => ⟨cs, (Below.heap_alloc _ _ _ (size_of_block hk)).trans hk, rfl⟩, rfl⟩
  refine ⟨⟨le, ⟨fun b B hb => ?_, h.inj, fun b B hb hz => h.zone b B hb hz.1⟩, ⟨rfl, rfl, rfl⟩, fun k hk ho => ⟨Below.heap_alloc _ _ _ hk, ho⟩, fun k _ hz => hz.1⟩, heap_alloc_new _ _, fun b B hb e => ?_, fun hz => Nat.lt_irrefl _ hz.2⟩
  · obtain ⟨h1, h2⟩ := h.blk b B hb
    exact ⟨h1, h2.mono le (Below.heap_alloc _ _ _ h2.lt)⟩
  · have := h.lt hb
    have e : C.mu b = C.w.heap.size := e
    omega

/-- The mark that a range over a function leaves among the deferred calls. -/
def markD (D : Nat) : Deferred := { target := .collected D, args := #[] }
/-- None, or one. -/
def Marks (b : Nat) (C : Cx) (ds : List Deferred) : Prop := ds = [] ∨ ∃ D, b ≤ D ∧ ds = [markD D] ∧ Side C D (.deferred (some []))
theorem Marks.goes {b : Nat} {C C' : Cx} {ds : List Deferred} (h : Marks b C ds) (g : Goes C C') : Marks b C' ds := by
  rcases h with h | ⟨D, h0, h1, h2⟩
  · exact Or.inl h
  · exact Or.inr ⟨D, h0, h1, h2.goes g⟩

/-- What code must come to where a function ends. -/
def endPost (P : Program) (fn : Func) (R : Ending → World → Prop) : Exit → Act → World → Prop
  | .normal, a, w | .ret, a, w => (a.defers = [] ∧ ∃ v, (results fn a.tmps).run P w = .ok v w ∧ R (.returned v) w) ∨ ∃ D w', a.defers = [markD D] ∧ (Instr.takeDeferred D).run P w = .ok [] w' ∧ ∃ v, (results fn a.tmps).run P w' = .ok v w' ∧ R (.returned v) w'
  | _, _, _ => False
theorem calls_of_end {P : Program} {f : FuncId} {fn : Func} {c : Code} {args : Array Value} {w : World} {R : Ending → World → Prop} (hf : P.funcs[f]? = some fn) (hb : fn.body = some c)
    (h : c.wp P (endPost P fn R) { tmps := args ++ Array.replicate (fn.ntmps - args.size) undef, defers := [] } w) : Calls P f args w R := by
  have key : ∀ (a : Act) (w : World), ((a.defers = [] ∧ ∃ v, (results fn a.tmps).run P w = .ok v w ∧ R (.returned v) w) ∨ ∃ D w', a.defers = [markD D] ∧ (Instr.takeDeferred D).run P w = .ok [] w' ∧ ∃ v, (results fn a.tmps).run P w' = .ok v w' ∧ R (.returned v) w') → LeavesInM Fence.wide 0 P fn a.tmps R a.defers .returning w := by
    intro a w h
    rcases h with ⟨h1, h2⟩ | ⟨D, w', h1, h2, h3⟩
    · rw [h1]; exact h2
    · rw [h1]
      exact ⟨by simp, Or.inl ⟨D, w', rfl, h2, h3⟩⟩
  refine (callsIn_wide (n := 0)).1 (callsIn_of_wp_marks hf hb trivial (wpIn_wide.2 ?_))
  refine Code.wp_mono ?_ h
  intro e a w' he
  cases e with
  | normal => exact key a w' he
  | ret => exact key a w' he
  | exit id => exact he.elim
  | goto l => exact he.elim
  | panic ch => exact he.elim
  | outgrown => exact he.elim
#print axioms calls_of_end
end Go.Proofs.YthklnpkjlepagaaGreatDoor.Ab
