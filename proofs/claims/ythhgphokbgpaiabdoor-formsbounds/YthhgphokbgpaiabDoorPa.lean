/- forms.Parse: what it answers. -/
import Derived.Test.YthhgphokbgpaiabDoorRs
import Derived.Test.YthhgphokbgpaiabDoorPp
import Derived.Laws.EntriesVeiled
import Derived.Deep.RegionWith
namespace Go.Proofs.YthhgphokbgpaiabDoor
open Go.RowKit

theorem row_at : ∀ (ts : List Tok) (k j : Nat) (hk : k < ts.length), j < 4 → (rowC ts)[k * 4 + j]? = (ts[k].cells)[j]?
  | t :: ts, 0, j, _, hj => by
    unfold rowC
    rw [List.map_cons, List.flatten_cons, Nat.zero_mul, Nat.zero_add, List.getElem?_append_left (by simp [Tok.cells]; omega)]
    rfl
  | t :: ts, k + 1, j, hk, hj => by
    have h := row_at ts k j (by simpa using hk) hj
    unfold rowC at h ⊢
    rw [List.map_cons, List.flatten_cons, List.getElem?_append_right (by simp [Tok.cells]; omega)]
    rw [show (k + 1) * 4 + j - t.cells.length = k * 4 + j by simp [Tok.cells]; omega]
    exact h

theorem toks_cells {w : World} {base : Nat} {v : Value} {ts : List Tok} (h : ToksAt w base v ts) (hne : 0 < ts.length) :
    ∃ g cap, v = .slice (some ⟨g, 0, none⟩) ts.length cap ∧ ts.length ≤ cap ∧ g < w.heap.size ∧ ∀ (k : Nat) (hk : k < ts.length), w.cell? ⟨g, k * 4, none⟩ = some (.int .i64 ts[k].kind) ∧ w.cell? ⟨g, k * 4 + 1, none⟩ = some (.int .i64 ts[k].n) ∧ w.cell? ⟨g, k * 4 + 2, none⟩ = some (.int .i64 ts[k].at') ∧ w.cell? ⟨g, k * 4 + 3, none⟩ = some (.string ⟨⟨ts[k].s⟩⟩) := by
  have h' := h
  rcases h.2 with ⟨_, h0⟩ | ⟨g, cap, cur, rfl, hg, hh, hc1, hc2, hcs, htk⟩
  · omega
  · refine ⟨g, cap, rfl, hc1, size_of_block hh, fun k hk => ?_⟩
    have key : ∀ j, j < 4 → w.cell? ⟨g, k * 4 + j, none⟩ = (ts[k].cells)[j]? := fun j hj => by
      rw [World.ownsRow.cellAt h' (k * 4 + j) (by omega)]
      exact row_at ts k j hk hj
    exact ⟨key 0 (by omega), key 1 (by omega), key 2 (by omega), key 3 (by omega)⟩

theorem Rd.later {w w' : World} {rb B : Nat} {vs0 : List Value} {cv ov : Value} {st0 : List (List Fm)} {cur : List Fm} (h : Rd w rb B vs0 cv ov st0 cur) (hb : Below w.heap.size w w') : Rd w' rb B vs0 cv ov st0 cur := by
  have hs := hb.size
  refine ⟨h.lt, Nat.le_trans h.base hs, (hb.block rb (size_of_block h.blk)).trans h.blk, owns_same h.own (fun g hg => hb.block g (h.own.lt g hg).2), h.rows.keep (fun q hq => hb.block q ?_) (fun q hq => ⟨hq.1, by have := hq.2.1; omega, hq.2.2⟩), h.apart⟩
  rcases hq with hq | ⟨v, hv, hq⟩
  · exact hq.2.1
  · exact (h.rows.lt v hv q hq).2

set_option maxRecDepth 20000 in
theorem takes_any (w : World) : Calls Tryd.prog 11 #[] w fun e w' => e = .returned (.agg #[.nilFunc, .func (.func 26) #[] #[], .func (.func 27) #[] #[], .func (.func 28) #[] #[], .func (.func 29) #[] #[]]) ∧ Below w.heap.size w w' := by
  go_enter Tryd.func11, Tryd.ntmps11
  go_wp2_with fail
  refine bodyPost_ret (v := .agg #[.nilFunc, .func (.func 26) #[] #[], .func (.func 27) #[] #[], .func (.func 28) #[] #[], .func (.func 29) #[] #[]]) (by simp [results, Tryd.results11, go_sem]) rfl ⟨rfl, (Below.refl _ _).alloc (Nat.le_refl _) _⟩

/-- What the answers are. -/
def ParOut (L : List UInt8) (w : World) (e : Ending) (w' : World) : Prop :=
  ((∃ er p, parP L = .error (er, p) ∧ e = .returned (.tuple #[.slice none 0 0, .int .i64 p, .int .i64 er])) ∨
   (∃ fs a cap, parP L = .ok fs ∧ fs.length ≤ 4000 ∧ e = .returned (.tuple #[.slice a fs.length cap, .int .i64 0, .int .i64 0]) ∧ RowAt w' (fun q => w.heap.size ≤ q ∧ q < w'.heap.size) (FmD w' (fun q => w.heap.size ≤ q ∧ q < w'.heap.size) 31) fs a cap)) ∧ Below w.heap.size w w'

theorem five_cells {w : World} {b : Nat} {x y z u v : Value} {T : TypeId} {fr : Nat × Nat} (h : w.heap[b]? = some (.cells #[x, y, z, u, v] T fr)) :
    w.cell? ⟨b, 1, none⟩ = some y ∧ w.cell? ⟨b, 2, none⟩ = some z ∧ w.cell? ⟨b, 3, none⟩ = some u ∧ w.cell? ⟨b, 4, none⟩ = some v :=
  ⟨(cell_of_block h 1).trans rfl, (cell_of_block h 2).trans rfl, (cell_of_block h 3).trans rfl, (cell_of_block h 4).trans rfl⟩

/-- What stays from round to round. -/
def Inv (ts : List Tok) (rb B : Nat) (W wr : World) (k : Nat) (up : List (List Fm)) (cur : List Fm) : Prop :=
  (∃ vs0 cv ov, Rd wr rb B vs0 cv ov up.reverse cur) ∧ Fr (fun q => q = rb ∨ B ≤ q) W wr ∧ runF (ts.drop k) up cur = runF ts [] [] ∧ cur.length ≤ k ∧ (∀ u ∈ up, u.length ≤ k) ∧ up.length ≤ 30

theorem Inv.next {ts : List Tok} {rb B k : Nat} {W wr W5 wn : World} {up up' : List (List Fm)} {cur cur' : List Fm} (h : Inv ts rb B W wr k up cur) (hk : k < ts.length) (ht : takeF up cur ts[k] = .ok (up', cur')) (h5 : Below wr.heap.size wr W5) {e : Ending} (hr : RdOut W5 rb B up'.reverse cur' e wn) :
    Inv ts rb B W wn (k + 1) up' cur' := by
  have hl := takeF_len ht h.2.2.2.1 h.2.2.2.2.1 h.2.2.2.2.2
  refine ⟨hr.2.2, (h.2.1.trans (Fr.of_below h5)).trans hr.2.1, ?_, hl.1, hl.2.1, hl.2.2⟩
  rw [← h.2.2.1, runF_drop hk, ht]

theorem Inv.bad {ts : List Tok} {rb B k er : Nat} {W wr : World} {up : List (List Fm)} {cur : List Fm} (h : Inv ts rb B W wr k up cur) (hk : k < ts.length) (ht : takeF up cur ts[k] = .error er) : runF ts [] [] = .error (er, ts[k].at') := by
  rw [← h.2.2.1, runF_drop hk, ht]
theorem par_ok {L : List UInt8} {ts : List Tok} {cur : List Fm} (hp : tokP L = .ok ts) (h : runF ts [] [] = .ok ([], cur)) : parP L = .ok cur := by
  unfold parP; rw [hp]; simp only [h]
theorem par_open {L : List UInt8} {ts : List Tok} {u : List Fm} {up : List (List Fm)} {cur : List Fm} (hp : tokP L = .ok ts) (h : runF ts [] [] = .ok (u :: up, cur)) : parP L = .error (7, L.length) := by
  unfold parP; rw [hp]; simp only [h]
theorem par_bad {L : List UInt8} {ts : List Tok} {x : Nat × Nat} (hp : tokP L = .ok ts) (h : runF ts [] [] = .error x) : parP L = .error x := by
  unfold parP; rw [hp]; simp only [h]
theorem par_lex {L : List UInt8} {x : Nat × Nat} (hp : tokP L = .error x) : parP L = .error x := by
  unfold parP; rw [hp]
theorem Inv.end' {ts : List Tok} {rb B k : Nat} {W wr : World} {up : List (List Fm)} {cur : List Fm} (h : Inv ts rb B W wr k up cur) (hk : ¬ k < ts.length) : runF ts [] [] = .ok (up, cur) := by
  rw [← h.2.2.1, List.drop_eq_nil_of_le (by omega), runF]

theorem later_drew (w : World) (o : Obj) : Below w.heap.size w (w.alloc o).drew := by
  have := (Below.refl w.heap.size w).alloc (Nat.le_refl _) o
  exact ⟨this.os, this.tape, this.output, this.size, this.block⟩

/-- The rows that are told at the end. -/
theorem par_rows {w wr : World} {rb B cc n : Nat} {ca : Option Addr} {ov : Value} {cur : List Fm} (h : Rd wr rb B [] (.slice ca n cc) ov [] cur) (hn : n = cur.length) (h1 : w.heap.size ≤ rb) :
    RowAt wr (fun q => w.heap.size ≤ q ∧ q < wr.heap.size) (FmD wr (fun q => w.heap.size ≤ q ∧ q < wr.heap.size) 31) cur ca cc := by
  subst hn
  have hB := h.lt
  obtain ⟨xs, h2, h3⟩ := Rows4.last (vs := []) (st := []) h.rows
  obtain ⟨a, cap, hv, hr⟩ := h3.row (D' := fun q => w.heap.size ≤ q ∧ q < wr.heap.size) h2 rfl (fun g hg => by have := h2.lt g hg; omega) (fun t u x => x.keep (fun _ _ => rfl) (fun q hq => ⟨by have := hq.1; omega, hq.2.1⟩) _ _ _)
  simp only [Value.slice.injEq, true_and] at hv
  obtain ⟨rfl, rfl⟩ := hv
  exact hr
theorem snoc_of {α : Type} {vs : List α} {n : Nat} (h : vs.length = n + 1) : ∃ l x, vs = l ++ [x] := by
  have hne : vs ≠ [] := fun e => by rw [e] at h; simp at h
  exact ⟨vs.dropLast, vs.getLast hne, (List.dropLast_concat_getLast hne).symm⟩

theorem tok_cell {wr w5 : World} {a b c d : Value} (h : Below (wr.alloc (.cells #[a, b, c, d] 44)).drew.heap.size (wr.alloc (.cells #[a, b, c, d] 44)).drew w5) : w5.cell? ⟨wr.heap.size, 2, none⟩ = some c := by
  have h1 : w5.heap[wr.heap.size]? = some (.cells #[a, b, c, d] 44 (0, 0)) := (h.block wr.heap.size (by rw [size_drew, World.size_alloc]; omega)).trans (new_block0 wr _)
  exact (cell_of_block h1 2).trans rfl
theorem below_tok {w wr w5 : World} {o : Obj} (h : Below w.heap.size w wr) (h5 : Below (wr.alloc o).drew.heap.size (wr.alloc o).drew w5) : Below w.heap.size w w5 := by
  have hs := h.size
  have h6 : Below w.heap.size (wr.alloc o).drew w5 := h5.mono (by rw [size_drew, World.size_alloc]; omega)
  exact (h.trans ((later_drew wr o).mono hs)).trans h6
#print axioms par_rows
end Go.Proofs.YthhgphokbgpaiabDoor
