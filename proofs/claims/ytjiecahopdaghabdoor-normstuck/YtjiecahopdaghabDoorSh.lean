/- rebuild: what Shift makes. -/
import Derived.Test.YtjiecahopdaghabDoorRb
import Derived.Deep.DeepCutAuto
import Derived.Deep.CutBlock
import Derived.Deep.RegionHeld3
namespace Go.Proofs.YtjiecahopdaghabDoor
open Go.RowKit

theorem old_blk3 {w : World} {b : Nat} {x y z : Value} {T : TypeId} (h : w.heap[b]? = some (.cells #[x, y, z] T (0, 0))) (o o' : Obj) : ((w.alloc o).alloc o').heap[b]? = some (.cells #[x, y, z] T (0, 0)) := by
  have hb := size_of_block h
  rw [Below.heap_alloc _ _ _ (by simp; omega), Below.heap_alloc _ _ _ hb]; exact h
theorem frz3 {w : World} {b : Nat} {x y z : Value} {T : TypeId} (h : w.heap[b]? = some (.cells #[x, y, z] T (0, 0))) : w.frozen? ⟨b, 0, none⟩ = false ∧ w.frozen? ⟨b, 1, none⟩ = false ∧ w.frozen? ⟨b, 2, none⟩ = false := ⟨frozen_of_block h 0, frozen_of_block h 1, frozen_of_block h 2⟩

/-- What is known at each round of rebuild's loop: N the first new block, M the first one behind freeAt's. -/
structure ShS (w wr : World) (M n f : Nat) (tb cb : Obj) (o nn : Int) (ts : List Tr) : Prop where
  b0 : wr.heap[w.heap.size]? = some tb
  b1 : wr.heap[w.heap.size + 1]? = some cb
  b2 : wr.heap[w.heap.size + 1 + 1]? = some (.cells #[.int .i64 0, .int .i64 0, .slice none 0 0] 26 (0, 0))
  bo : wr.heap[M + 1]? = some (.cells #[.int .i64 o, .int .i64 nn, .slice (some ⟨M + 1 + 1, 0, none⟩) n n] 26 (0, 0))
  row : RowTo wr (M + 1 + 1) n f ts
  bl : Below w.heap.size w wr
  lt : w.heap.size + 3 ≤ M

theorem ShS.later {w wr w5 : World} {M n f : Nat} {tb cb : Obj} {o nn : Int} {ts : List Tr} (h : ShS w wr M n f tb cb o nn ts) (hb : Below wr.heap.size wr w5) : ShS w w5 M n f tb cb o nn ts :=
  ⟨(hb.block _ (size_of_block h.b0)).trans h.b0, (hb.block _ (size_of_block h.b1)).trans h.b1, (hb.block _ (size_of_block h.b2)).trans h.b2, (hb.block _ (size_of_block h.bo)).trans h.bo, h.row.later hb, h.bl.trans (hb.mono h.bl.size), h.lt⟩

theorem ShS.put {w w5 : World} {M n f k : Nat} {tb cb : Obj} {o nn : Int} {ts : List Tr} {t' : Tr} {p0 p1 p2 : Value} (h : ShS w w5 M n f tb cb o nn ts) (hk : ts.length = k) (hkn : k < n)
    (ht : TmD w5 (fun q => M + 1 + 1 < q ∧ q < w5.heap.size) f t' (.agg #[p0, p1, p2])) :
    ShS w (((w5.setCell ⟨M + 1 + 1, k * 3, none⟩ p0).setCell ⟨M + 1 + 1, k * 3 + 1, none⟩ p1).setCell ⟨M + 1 + 1, k * 3 + 2, none⟩ p2) M n f tb cb o nn (ts ++ [t']) := by
  have hl := h.lt
  have hs := h.bl.size
  have oth : ∀ q, q < M + 1 + 1 → (((w5.setCell ⟨M + 1 + 1, k * 3, none⟩ p0).setCell ⟨M + 1 + 1, k * 3 + 1, none⟩ p1).setCell ⟨M + 1 + 1, k * 3 + 2, none⟩ p2).heap[q]? = w5.heap[q]? := fun q hq => by
    rw [heap_setCell_other _ _ _ _ (show q ≠ M + 1 + 1 by omega), heap_setCell_other _ _ _ _ (show q ≠ M + 1 + 1 by omega), heap_setCell_other _ _ _ _ (show q ≠ M + 1 + 1 by omega)]
  exact ⟨(oth _ (by omega)).trans h.b0, (oth _ (by omega)).trans h.b1, (oth _ (by omega)).trans h.b2, (oth _ (by omega)).trans h.bo, h.row.put hk hkn ht, ((h.bl.setCell (p := ⟨M + 1 + 1, k * 3, none⟩) (by show _ ≤ M + 1 + 1; omega) _).setCell (p := ⟨M + 1 + 1, k * 3 + 1, none⟩) (by show _ ≤ M + 1 + 1; omega) _).setCell (p := ⟨M + 1 + 1, k * 3 + 2, none⟩) (by show _ ≤ M + 1 + 1; omega) _, h.lt⟩

theorem shs_start {w w1 : World} {n f : Nat} {x0 x2 : Array Value} {T1 : TypeId} {o nn : Int} {cs : Array Value} {vb : Obj} (hb : Below w.heap.size w w1) (k0 : w1.heap[w.heap.size]? = some (.cells x0 26)) (k1 : w1.heap[w.heap.size + 1]? = some (.cells x2 T1))
    (k2 : w1.heap[w.heap.size + 2]? = some (.cells #[.int .i64 0, .int .i64 0, .slice none 0 0] 26)) (hcs : cs.size = n * 3) (hs : w.heap.size + 3 ≤ w1.heap.size) :
    ShS w (((w1.alloc vb).alloc (.cells #[.int .i64 o, .int .i64 nn, .slice (some ⟨w1.heap.size + 1 + 1, 0, none⟩) n n] 26)).alloc (.cells cs 26)) w1.heap.size n f (.cells x0 26) (.cells x2 T1) o nn [] := by
  have old : ∀ q, q < w1.heap.size → (((w1.alloc vb).alloc (.cells #[.int .i64 o, .int .i64 nn, .slice (some ⟨w1.heap.size + 1 + 1, 0, none⟩) n n] 26)).alloc (.cells cs 26)).heap[q]? = w1.heap[q]? := fun q hq => by
    rw [Below.heap_alloc _ _ _ (by simp; omega), Below.heap_alloc _ _ _ (by simp; omega), Below.heap_alloc _ _ _ hq]
  refine ⟨(old _ (by omega)).trans k0, (old _ (by omega)).trans k1, (old _ (by omega)).trans k2, ?_, RowTo.nil ?_ hcs, ((hb.alloc (by omega) _).alloc (by simp; omega) _).alloc (by simp; omega) _, hs⟩
  · rw [Below.heap_alloc _ _ _ (by simp)]
    have := heap_alloc_new (w1.alloc vb) (.cells #[.int .i64 o, .int .i64 nn, .slice (some ⟨w1.heap.size + 1 + 1, 0, none⟩) n n] 26)
    rw [World.size_alloc] at this
    exact this
  · have := heap_alloc_new ((w1.alloc vb).alloc (.cells #[.int .i64 o, .int .i64 nn, .slice (some ⟨w1.heap.size + 1 + 1, 0, none⟩) n n] 26)) (.cells cs 26)
    rw [World.size_alloc, World.size_alloc] at this
    exact this
theorem drew_below2 {w w' : World} {o : Obj} (h : Below (w.alloc o).drew.heap.size (w.alloc o).drew w') : Below w.heap.size w w' :=
  (later_alloc w o).trans ⟨h.os, h.tape, h.output, h.size, fun k hk => h.block k (by rw [size_drew, World.size_alloc]; omega)⟩
theorem drew_le (w : World) (o : Obj) : w.heap.size ≤ (w.alloc o).drew.heap.size := by rw [size_drew, World.size_alloc]; omega
theorem held_sh {w w5 : World} {x0 x1 x2 y0 y1 y2 y3 : Value} {q m : Nat} (hb : Below (w.alloc (.cells #[x0, x1, x2] 26)).drew.heap.size (w.alloc (.cells #[x0, x1, x2] 26)).drew w5)
    (h0 : (w.alloc (.cells #[x0, x1, x2] 26)).cell? ⟨q, 0, none⟩ = some y0) (h1 : (w.alloc (.cells #[x0, x1, x2] 26)).cell? ⟨q + 1, 0, none⟩ = some y1) (h2 : (w.alloc (.cells #[x0, x1, x2] 26)).cell? ⟨q + 1, 1, none⟩ = some y2) (h3 : (w.alloc (.cells #[x0, x1, x2] 26)).cell? ⟨m, 2, none⟩ = some y3)
    (_ : q < w.heap.size) (hq1 : q + 1 < w.heap.size) (hm : m < w.heap.size) :
    w5.cell? ⟨w.heap.size, 0, none⟩ = some x0 ∧ w5.cell? ⟨w.heap.size, 1, none⟩ = some x1 ∧ w5.cell? ⟨w.heap.size, 2, none⟩ = some x2 ∧ w5.cell? ⟨q, 0, none⟩ = some y0 ∧ w5.cell? ⟨q + 1, 0, none⟩ = some y1 ∧ w5.cell? ⟨q + 1, 1, none⟩ = some y2 ∧ w5.cell? ⟨m, 2, none⟩ = some y3 := by
  have hc : ∀ p : Addr, p.block < w.heap.size + 1 → w5.cell? p = (w.alloc (.cells #[x0, x1, x2] 26)).cell? p := fun p hp => hb.cell (p := p) (by rw [size_drew, World.size_alloc]; exact hp)
  refine ⟨?_, ?_, ?_, ?_, ?_, ?_, ?_⟩
  · rw [hc _ (by simp)]; simp
  · rw [hc _ (by simp)]; simp
  · rw [hc _ (by simp)]; simp
  · rw [hc _ (by show q < _; omega)]; exact h0
  · rw [hc _ (by show q + 1 < _; omega)]; exact h1
  · rw [hc _ (by show q + 1 < _; omega)]; exact h2
  · rw [hc _ (by show m < _; omega)]; exact h3

theorem cell_put3 {w5 : World} {rb i j l b o : Nat} {p0 p1 p2 : Value} (h : b ≠ rb) : (((w5.setCell ⟨rb, i, none⟩ p0).setCell ⟨rb, j, none⟩ p1).setCell ⟨rb, l, none⟩ p2).cell? ⟨b, o, none⟩ = w5.cell? ⟨b, o, none⟩ := by
  refine World.cell?_of_block (w := w5) ?_
  show (((w5.setCell ⟨rb, i, none⟩ p0).setCell ⟨rb, j, none⟩ p1).setCell ⟨rb, l, none⟩ p2).heap[b]? = w5.heap[b]?
  rw [heap_setCell_other _ _ _ _ (show b ≠ rb from h), heap_setCell_other _ _ _ _ (show b ≠ rb from h), heap_setCell_other _ _ _ _ (show b ≠ rb from h)]
theorem held_put {w5 : World} {N q m rb i j l : Nat} {x0 x1 x2 y0 y1 y2 y3 p0 p1 p2 : Value}
    (h : w5.cell? ⟨N, 0, none⟩ = some x0 ∧ w5.cell? ⟨N, 1, none⟩ = some x1 ∧ w5.cell? ⟨N, 2, none⟩ = some x2 ∧ w5.cell? ⟨q, 0, none⟩ = some y0 ∧ w5.cell? ⟨q + 1, 0, none⟩ = some y1 ∧ w5.cell? ⟨q + 1, 1, none⟩ = some y2 ∧ w5.cell? ⟨m, 2, none⟩ = some y3)
    (hN : N ≠ rb) (hq : q ≠ rb) (hq1 : q + 1 ≠ rb) (hm : m ≠ rb) :
    (((w5.setCell ⟨rb, i, none⟩ p0).setCell ⟨rb, j, none⟩ p1).setCell ⟨rb, l, none⟩ p2).cell? ⟨N, 0, none⟩ = some x0 ∧ (((w5.setCell ⟨rb, i, none⟩ p0).setCell ⟨rb, j, none⟩ p1).setCell ⟨rb, l, none⟩ p2).cell? ⟨N, 1, none⟩ = some x1 ∧ (((w5.setCell ⟨rb, i, none⟩ p0).setCell ⟨rb, j, none⟩ p1).setCell ⟨rb, l, none⟩ p2).cell? ⟨N, 2, none⟩ = some x2 ∧ (((w5.setCell ⟨rb, i, none⟩ p0).setCell ⟨rb, j, none⟩ p1).setCell ⟨rb, l, none⟩ p2).cell? ⟨q, 0, none⟩ = some y0 ∧ (((w5.setCell ⟨rb, i, none⟩ p0).setCell ⟨rb, j, none⟩ p1).setCell ⟨rb, l, none⟩ p2).cell? ⟨q + 1, 0, none⟩ = some y1 ∧ (((w5.setCell ⟨rb, i, none⟩ p0).setCell ⟨rb, j, none⟩ p1).setCell ⟨rb, l, none⟩ p2).cell? ⟨q + 1, 1, none⟩ = some y2 ∧ (((w5.setCell ⟨rb, i, none⟩ p0).setCell ⟨rb, j, none⟩ p1).setCell ⟨rb, l, none⟩ p2).cell? ⟨m, 2, none⟩ = some y3 := by
  refine ⟨?_, ?_, ?_, ?_, ?_, ?_, ?_⟩
  · rw [cell_put3 hN]; exact h.1
  · rw [cell_put3 hN]; exact h.2.1
  · rw [cell_put3 hN]; exact h.2.2.1
  · rw [cell_put3 hq]; exact h.2.2.2.1
  · rw [cell_put3 hq1]; exact h.2.2.2.2.1
  · rw [cell_put3 hq1]; exact h.2.2.2.2.2.1
  · rw [cell_put3 hm]; exact h.2.2.2.2.2.2

theorem tmd_leaf {w : World} {D : Nat → Prop} (f : Nat) {o n : Int} (ho : I64 o) (hn : I64 n) : TmD w D (f + 1) ⟨o, n, []⟩ (.agg #[.int .i64 o, .int .i64 n, .slice none 0 0]) :=
  ⟨none, 0, rfl, ho, hn, RowAt.nil (by unfold maxLen; omega)⟩

theorem shf_take_succ (b fr u : Int) (t : Tr) (k : Nat) (hk : k < t.kids.length) : (shf b fr u t).kids.take (k + 1) = (shf b fr u t).kids.take k ++ [shf b fr (u + (bnd t.op (k : Nat) : Nat)) t.kids[k]] := by
  rw [shf_eq]
  simp only
  rw [List.take_succ_eq_append_getElem (by simpa using hk), List.getElem_mapIdx]

theorem sh_fin {w wr : World} {M f : Nat} {tb cb : Obj} {t s : Tr} {p0 p1 p2 : Value} (h : ShS w wr M t.kids.length f tb cb t.op t.n (s.kids.take t.kids.length)) (hs : s.op = t.op ∧ s.n = t.n ∧ s.kids.length = t.kids.length) (ho : I64 t.op) (hn : I64 t.n) (hl : t.kids.length ≤ maxLen) :
    TmD (((wr.setCell ⟨w.heap.size + 1 + 1, 0, none⟩ p0).setCell ⟨w.heap.size + 1 + 1, 1, none⟩ p1).setCell ⟨w.heap.size + 1 + 1, 2, none⟩ p2) (fun k => w.heap.size ≤ k ∧ k < (((wr.setCell ⟨w.heap.size + 1 + 1, 0, none⟩ p0).setCell ⟨w.heap.size + 1 + 1, 1, none⟩ p1).setCell ⟨w.heap.size + 1 + 1, 2, none⟩ p2).heap.size) (f + 1) s (.agg #[.int .i64 t.op, .int .i64 t.n, .slice (some ⟨M + 1 + 1, 0, none⟩) t.kids.length t.kids.length]) := by
  obtain ⟨h1, h2, h3⟩ := hs
  have hr := h.row
  rw [← h3, List.take_length] at hr
  have hlt := h.lt
  have hsz : (((wr.setCell ⟨w.heap.size + 1 + 1, 0, none⟩ p0).setCell ⟨w.heap.size + 1 + 1, 1, none⟩ p1).setCell ⟨w.heap.size + 1 + 1, 2, none⟩ p2).heap.size = wr.heap.size := by simp [World.setCell]
  have hrow := hr.row (by rw [h3]; exact hl) (fun q => M + 1 + 1 ≤ q ∧ q < wr.heap.size) (fun q hq hq2 => ⟨hq, hq2⟩)
  refine ⟨some ⟨M + 1 + 1, 0, none⟩, t.kids.length, by rw [h1, h2, h3], by rw [h1]; exact ho, by rw [h2]; exact hn, ?_⟩
  rw [← h3]
  have oth : ∀ q, M + 1 + 1 ≤ q ∧ q < wr.heap.size → (((wr.setCell ⟨w.heap.size + 1 + 1, 0, none⟩ p0).setCell ⟨w.heap.size + 1 + 1, 1, none⟩ p1).setCell ⟨w.heap.size + 1 + 1, 2, none⟩ p2).heap[q]? = wr.heap[q]? := fun q hq => by
    rw [heap_setCell_other _ _ _ _ (show q ≠ w.heap.size + 1 + 1 by omega), heap_setCell_other _ _ _ _ (show q ≠ w.heap.size + 1 + 1 by omega), heap_setCell_other _ _ _ _ (show q ≠ w.heap.size + 1 + 1 by omega)]
  exact hrow.imp oth (fun q hq => ⟨by omega, by rw [hsz]; exact hq.2⟩) (fun x v hx => hx.keep oth (fun q hq => ⟨by omega, by rw [hsz]; exact hq.2⟩) f x v)

end Go.Proofs.YtjiecahopdaghabDoor
