/- rebuild: what Shift makes. -/
import Derived.Test.YtjiecahopdaghaaDoorRb
import Derived.Deep.DeepCutAuto
import Derived.Deep.CutBlock
import Derived.Deep.RegionHeld3
namespace Go.Proofs.YtjiecahopdaghaaDoor
open Go.RowKit

theorem old_blk3 {w : World} {b : Nat} {x y z : Value} {T : TypeId} (h : w.heap[b]? = some (.cells #[x, y, z] T (0, 0))) (o o' : Obj) : ((w.alloc o).alloc o').heap[b]? = some (.cells #[x, y, z] T (0, 0)) := by
  have hb := size_of_block h
  rw [Below.heap_alloc _ _ _ (by simp; omega), Below.heap_alloc _ _ _ hb]; exact h
theorem frz3 {w : World} {b : Nat} {x y z : Value} {T : TypeId} (h : w.heap[b]? = some (.cells #[x, y, z] T (0, 0))) : w.frozen? ⟨b, 0, none⟩ = false ∧ w.frozen? ⟨b, 1, none⟩ = false ∧ w.frozen? ⟨b, 2, none⟩ = false := ⟨frozen_of_block h 0, frozen_of_block h 1, frozen_of_block h 2⟩

/-- What is known at each round of rebuild's loop: N the first new block, M the first one behind freeAt's. -/
structure ShS (w wr : World) (M n f : Nat) (tb cb : Obj) (o nn : Int) (ts : List Tr) : Prop where
  b0 : wr.heap[w.heap.size]? = some tb
  b1 : wr.heap[w.heap.size + 1]? = some cb
  b2 : wr.heap[w.heap.size + 1 + 1]? = some (.cells #[.int .i64 0, .int .i64 0, .slice none 0 0] 31 (0, 0))
  bo : wr.heap[M + 1]? = some (.cells #[.int .i64 o, .int .i64 nn, .slice (some ⟨M + 1 + 1, 0, none⟩) n n] 31 (0, 0))
  row : RowTo wr (M + 1 + 1) n f ts
  bl : Below w.heap.size w wr
  lt : w.heap.size + 3 ≤ M

theorem ShS.later {w wr w5 : World} {M n f : Nat} {tb cb : Obj} {o nn : Int} {ts : List Tr} (h : ShS w wr M n f tb cb o nn ts) (hb : Below wr.heap.size wr w5) : ShS w w5 M n f tb cb o nn ts :=
  ⟨(hb.block _ (size_of_block h.b0)).trans h.b0, (hb.block _ (size_of_block h.b1)).trans h.b1, (hb.block _ (size_of_block h.b2)).trans h.b2, (hb.block _ (size_of_block h.bo)).trans h.bo, h.row.later hb, h.bl.trans (hb.mono h.bl.size), h.lt⟩

theorem ShS.put {w w5 : World} {M n f k : Nat} {tb cb : Obj} {o nn : Int} {ts : List Tr} {t' : Tr} {p0 p1 p2 : Value} (h : ShS w w5 M n f tb cb o nn ts) (hk : ts.length = k) (hkn : k < n)
    (ht : TmD w5 (fun q => M + 1 + 1 < q ∧ q < w5.heap.size) f t' (.agg #[p0, p1, p2])) :
    ShS w (((w5.setCell ⟨M + 1 + 1, k * 3, none⟩ p0).setCell ⟨M + 1 + 1, k * 3 + 1, none⟩ p1).setCell ⟨M + 1 + 1, k * 3 + 2, none⟩ p2) M n f tb cb o nn (ts ++ [t']) := by
  have hl := h.lt
  have hs := h.bl.size
  have oth : ∀ q, q < M + 1 + 1 → (((w5.setCell ⟨M + 1 + 1, k * 3, none⟩ p0).setCell ⟨M + 1 + 1, k * 3 + 1, none⟩ p1).setCell ⟨M + 1 + 1, k * 3 + 2, none⟩ p2).heap[q]? = w5.heap[q]? := fun q hq => by
    rw [heap_setCell_other _ _ _ _ (show q ≠ M + 1 + 1 by omega), heap_setCell_other _ _ _ _ (show q ≠ M + 1 + 1 by omega), heap_setCell_other _ _ _ _ (show q ≠ M + 1 + 1 by omega)]
  exact ⟨(oth _ (by omega)).trans h.b0, (oth _ (by omega)).trans h.b1, (oth _ (by omega)).trans h.b2, (oth _ (by omega)).trans h.bo, h.row.put hk hkn ht, ((h.bl.setCell (p := ⟨M + 1 + 1, k * 3, none⟩) (by show _ ≤ M + 1 + 1; omega) _).setCell (p := ⟨M + 1 + 1, k * 3 + 1, none⟩) (by show _ ≤ M + 1 + 1; omega) _).setCell (p := ⟨M + 1 + 1, k * 3 + 2, none⟩) (by show _ ≤ M + 1 + 1; omega) _, h.lt⟩

theorem shs_start {w w1 : World} {n f : Nat} {x0 x2 : Array Value} {T1 : TypeId} {o nn : Int} {cs : Array Value} {vb : Obj} (hb : Below w.heap.size w w1) (k0 : w1.heap[w.heap.size]? = some (.cells x0 31)) (k1 : w1.heap[w.heap.size + 1]? = some (.cells x2 T1))
    (k2 : w1.heap[w.heap.size + 2]? = some (.cells #[.int .i64 0, .int .i64 0, .slice none 0 0] 31)) (hcs : cs.size = n * 3) (hs : w.heap.size + 3 ≤ w1.heap.size) :
    ShS w (((w1.alloc vb).alloc (.cells #[.int .i64 o, .int .i64 nn, .slice (some ⟨w1.heap.size + 1 + 1, 0, none⟩) n n] 31)).alloc (.cells cs 31)) w1.heap.size n f (.cells x0 31) (.cells x2 T1) o nn [] := by
  have old : ∀ q, q < w1.heap.size → (((w1.alloc vb).alloc (.cells #[.int .i64 o, .int .i64 nn, .slice (some ⟨w1.heap.size + 1 + 1, 0, none⟩) n n] 31)).alloc (.cells cs 31)).heap[q]? = w1.heap[q]? := fun q hq => by
    rw [Below.heap_alloc _ _ _ (by simp; omega), Below.heap_alloc _ _ _ (by simp; omega), Below.heap_alloc _ _ _ hq]
  refine ⟨(old _ (by omega)).trans k0, (old _ (by omega)).trans k1, (old _ (by omega)).trans k2, ?_, RowTo.nil ?_ hcs, ((hb.alloc (by omega) _).alloc (by simp; omega) _).alloc (by simp; omega) _, hs⟩
  · rw [Below.heap_alloc _ _ _ (by simp)]
    have := heap_alloc_new (w1.alloc vb) (.cells #[.int .i64 o, .int .i64 nn, .slice (some ⟨w1.heap.size + 1 + 1, 0, none⟩) n n] 31)
    rw [World.size_alloc] at this
    exact this
  · have := heap_alloc_new ((w1.alloc vb).alloc (.cells #[.int .i64 o, .int .i64 nn, .slice (some ⟨w1.heap.size + 1 + 1, 0, none⟩) n n] 31)) (.cells cs 31)
    rw [World.size_alloc, World.size_alloc] at this
    exact this
theorem drew_below2 {w w' : World} {o : Obj} (h : Below (w.alloc o).drew.heap.size (w.alloc o).drew w') : Below w.heap.size w w' :=
  (later_alloc w o).trans ⟨h.os, h.tape, h.output, h.size, fun k hk => h.block k (by rw [size_drew, World.size_alloc]; omega)⟩
theorem drew_le (w : World) (o : Obj) : w.heap.size ≤ (w.alloc o).drew.heap.size := by rw [size_drew, World.size_alloc]; omega
theorem held_sh {w w5 : World} {x0 x1 x2 y0 y1 y2 y3 : Value} {q m : Nat} (hb : Below (w.alloc (.cells #[x0, x1, x2] 31)).drew.heap.size (w.alloc (.cells #[x0, x1, x2] 31)).drew w5)
    (h0 : (w.alloc (.cells #[x0, x1, x2] 31)).cell? ⟨q, 0, none⟩ = some y0) (h1 : (w.alloc (.cells #[x0, x1, x2] 31)).cell? ⟨q + 1, 0, none⟩ = some y1) (h2 : (w.alloc (.cells #[x0, x1, x2] 31)).cell? ⟨q + 1, 1, none⟩ = some y2) (h3 : (w.alloc (.cells #[x0, x1, x2] 31)).cell? ⟨m, 2, none⟩ = some y3)
    (_ : q < w.heap.size) (hq1 : q + 1 < w.heap.size) (hm : m < w.heap.size) :
    w5.cell? ⟨w.heap.size, 0, none⟩ = some x0 ∧ w5.cell? ⟨w.heap.size, 1, none⟩ = some x1 ∧ w5.cell? ⟨w.heap.size, 2, none⟩ = some x2 ∧ w5.cell? ⟨q, 0, none⟩ = some y0 ∧ w5.cell? ⟨q + 1, 0, none⟩ = some y1 ∧ w5.cell? ⟨q + 1, 1, none⟩ = some y2 ∧ w5.cell? ⟨m, 2, none⟩ = some y3 := by
  have hc : ∀ p : Addr, p.block < w.heap.size + 1 → w5.cell? p = (w.alloc (.cells #[x0, x1, x2] 31)).cell? p := fun p hp => hb.cell (p := p) (by rw [size_drew, World.size_alloc]; exact hp)
  refine ⟨?_, ?_, ?_, ?_, ?_, ?_, ?_⟩
  · rw [hc _ (by simp)]; simp
  · rw [hc _ (by simp)]; simp
  · rw [hc _ (by simp)]; simp
  · rw [hc _ (by show q < _; omega)]; exact h0
  · rw [hc _ (by show q + 1 < _; omega)]; exact h1
  · rw [hc _ (by show q + 1 < _; omega)]; exact h2
  · rw [hc _ (by show m < _; omega)]; exact h3

theorem cell_put3 {w5 : World} {rb i j l b o : Nat} {p0 p1 p2 : Value} (h : b ≠ rb) : (((w5.setCell ⟨rb, i, none⟩ p0).setCell ⟨rb, j, none⟩ p1).setCell ⟨rb, l, none⟩ p2).cell? ⟨b, o, none⟩ = w5.cell? ⟨b, o, none⟩ := by
  refine World.cell?_of_block (w := w5) ?_
  show (((w5.setCell ⟨rb, i, none⟩ p0).setCell ⟨rb, j, none⟩ p1).setCell ⟨rb, l, none⟩ p2).heap[b]? = w5.heap[b]?
  rw [heap_setCell_other _ _ _ _ (show b ≠ rb from h), heap_setCell_other _ _ _ _ (show b ≠ rb from h), heap_setCell_other _ _ _ _ (show b ≠ rb from h)]
theorem held_put {w5 : World} {N q m rb i j l : Nat} {x0 x1 x2 y0 y1 y2 y3 p0 p1 p2 : Value}
    (h : w5.cell? ⟨N, 0, none⟩ = some x0 ∧ w5.cell? ⟨N, 1, none⟩ = some x1 ∧ w5.cell? ⟨N, 2, none⟩ = some x2 ∧ w5.cell? ⟨q, 0, none⟩ = some y0 ∧ w5.cell? ⟨q + 1, 0, none⟩ = some y1 ∧ w5.cell? ⟨q + 1, 1, none⟩ = some y2 ∧ w5.cell? ⟨m, 2, none⟩ = some y3)
    (hN : N ≠ rb) (hq : q ≠ rb) (hq1 : q + 1 ≠ rb) (hm : m ≠ rb) :
    (((w5.setCell ⟨rb, i, none⟩ p0).setCell ⟨rb, j, none⟩ p1).setCell ⟨rb, l, none⟩ p2).cell? ⟨N, 0, none⟩ = some x0 ∧ (((w5.setCell ⟨rb, i, none⟩ p0).setCell ⟨rb, j, none⟩ p1).setCell ⟨rb, l, none⟩ p2).cell? ⟨N, 1, none⟩ = some x1 ∧ (((w5.setCell ⟨rb, i, none⟩ p0).setCell ⟨rb, j, none⟩ p1).setCell ⟨rb, l, none⟩ p2).cell? ⟨N, 2, none⟩ = some x2 ∧ (((w5.setCell ⟨rb, i, none⟩ p0).setCell ⟨rb, j, none⟩ p1).setCell ⟨rb, l, none⟩ p2).cell? ⟨q, 0, none⟩ = some y0 ∧ (((w5.setCell ⟨rb, i, none⟩ p0).setCell ⟨rb, j, none⟩ p1).setCell ⟨rb, l, none⟩ p2).cell? ⟨q + 1, 0, none⟩ = some y1 ∧ (((w5.setCell ⟨rb, i, none⟩ p0).setCell ⟨rb, j, none⟩ p1).setCell ⟨rb, l, none⟩ p2).cell? ⟨q + 1, 1, none⟩ = some y2 ∧ (((w5.setCell ⟨rb, i, none⟩ p0).setCell ⟨rb, j, none⟩ p1).setCell ⟨rb, l, none⟩ p2).cell? ⟨m, 2, none⟩ = some y3 := by
  refine ⟨?_, ?_, ?_, ?_, ?_, ?_, ?_⟩
  · rw [cell_put3 hN]; exact h.1
  · rw [cell_put3 hN]; exact h.2.1
  · rw [cell_put3 hN]; exact h.2.2.1
  · rw [cell_put3 hq]; exact h.2.2.2.1
  · rw [cell_put3 hq1]; exact h.2.2.2.2.1
  · rw [cell_put3 hq1]; exact h.2.2.2.2.2.1
  · rw [cell_put3 hm]; exact h.2.2.2.2.2.2

set_option maxRecDepth 20000 in
set_option maxHeartbeats 1000000 in
theorem sput_any (b fr x u r : Int) (w : World) (hx : 0 ≤ x ∧ x ≤ 1000000000) (hu : 0 ≤ u ∧ u ≤ 1000000) (hb : 0 ≤ b ∧ b ≤ 1000000) (_ : 0 ≤ fr ∧ fr ≤ 1000000) (hr : Hid (r = if fr ≤ x then x + b + u else x + u)) :
    Calls Tryd.prog 103 #[.agg #[.int .i64 b, .int .i64 fr], .agg #[.int .i64 x, .int .i64 u]] w fun e w' => e = .returned (.agg #[.int .i64 1, .int .i64 r, .slice none 0 0]) ∧ Below w.heap.size w w' := by
  by_cases h : fr ≤ x
  · have HE : Hid (r = x + b + u) := hide (by have := hr.out; rwa [if_pos h] at this)
    clear hr
    go_enter Tryd.func103, Tryd.ntmps103
    go_wp2_with fail
    refine (node_any (x + b) u _ (by omega) (by omega)).mono ?_
    rintro e w1 ⟨rfl, hb1⟩
    obtain ⟨_, _, k2, hbl, _⟩ := box_three hb1
    obtain ⟨y0, y1, y2⟩ := blk3 k2
    obtain ⟨z0, z1, z2⟩ := frz3 k2
    have HB := hide hbl
    clear hb1 hbl k2
    go_wp2_with fail
    refine bodyPost_ret (v := .agg #[.int .i64 1, .int .i64 (x + b + u), .slice none 0 0]) (by simp [results, Tryd.results103, go_sem, y0, y1, y2]) rfl ⟨by rw [HE.out], ?_⟩
    exact ((HB.out.setCell (show w.heap.size ≤ w.heap.size + 1 + 1 by omega) _).setCell (show w.heap.size ≤ w.heap.size + 1 + 1 by omega) _).setCell (show w.heap.size ≤ w.heap.size + 1 + 1 by omega) _
  · have HE : Hid (r = x + u) := hide (by have := hr.out; rwa [if_neg h] at this)
    clear hr
    go_enter Tryd.func103, Tryd.ntmps103
    go_wp2_with fail
    refine (node_any x u _ (by omega) (by omega)).mono ?_
    rintro e w1 ⟨rfl, hb1⟩
    obtain ⟨_, _, k2, hbl, _⟩ := box_three hb1
    obtain ⟨y0, y1, y2⟩ := blk3 k2
    obtain ⟨z0, z1, z2⟩ := frz3 k2
    have HB := hide hbl
    clear hb1 hbl k2
    go_wp2_with fail
    refine bodyPost_ret (v := .agg #[.int .i64 1, .int .i64 (x + u), .slice none 0 0]) (by simp [results, Tryd.results103, go_sem, y0, y1, y2]) rfl ⟨by rw [HE.out], ?_⟩
    exact ((HB.out.setCell (show w.heap.size ≤ w.heap.size + 1 + 1 by omega) _).setCell (show w.heap.size ≤ w.heap.size + 1 + 1 by omega) _).setCell (show w.heap.size ≤ w.heap.size + 1 + 1 by omega) _

set_option maxRecDepth 20000 in
set_option maxHeartbeats 1000000 in
theorem shift_var (b fr : Int) (a : Option Addr) (cap : Nat) (m u r : Int) (w : World) (hm : I64 m) (h0 : 0 ≤ u) (h1 : u ≤ m) (hu : u ≤ 1000000) (hm2 : m ≤ 1000000000) (hb : 0 ≤ b ∧ b ≤ 1000000) (hf : 0 ≤ fr ∧ fr ≤ 1000000) (hr : Hid (r = if fr + u ≤ m then m + b else m)) :
    Calls Tryd.prog 102 #[.agg #[.int .i64 1, .int .i64 m, .slice a 0 cap], .int .i64 u, .agg #[.int .i64 b, .int .i64 fr], .func (.func 103) #[] #[]] w fun e w' => e = .returned (.agg #[.int .i64 1, .int .i64 r, .slice none 0 0]) ∧ Below w.heap.size w w' := by
  have HM := hide hm
  clear hm
  have H1 := hide h1
  go_enter Tryd.func102, Tryd.ntmps102
  go_wp2_with fail
  refine (freeat_yes m u _ _ _ _ HM.out ⟨h0, by omega⟩ H1.out).mono ?_
  rintro e w1 ⟨rfl, hb1⟩
  obtain ⟨k0, k1, k2, hbl, hs1⟩ := box_three hb1
  have HB1 := hide hbl
  have e0 : ∀ o, (w1.alloc o).cell? ⟨w.heap.size + 1, 0, none⟩ = some (.int .i64 b) := (old_cell ((cell_of_block k1 0).trans rfl) (by omega)).1
  have e1 : ∀ o, (w1.alloc o).cell? ⟨w.heap.size + 1, 1, none⟩ = some (.int .i64 fr) := (old_cell ((cell_of_block k1 1).trans rfl) (by omega)).1
  have HK2 := hide k2
  clear hb1 hbl k0 k1 k2
  go_wp2_with fail
  refine (sput_any b fr (m - u) u r _ (by omega) (by omega) hb hf (hide (by have := hr.out; rw [this]; split <;> (split <;> omega)))).mono ?_
  rintro e w2 ⟨rfl, hb2⟩
  have hs2 := hb2.size
  rw [World.size_alloc] at hs2
  have k2 : w2.heap[w.heap.size + 2]? = some (.cells #[.int .i64 0, .int .i64 0, .slice none 0 0] 31 (0, 0)) := by
    rw [hb2.block _ (by rw [World.size_alloc]; omega), Below.heap_alloc _ _ _ (by omega)]; exact HK2.out
  obtain ⟨y0, y1, y2⟩ := blk3 k2
  obtain ⟨z0, z1, z2⟩ := frz3 k2
  have HB2 : Hid (Below w.heap.size w w2) := HB1.out.trans (((Below.refl _ _).alloc (by omega) _).trans (hb2.mono (by rw [World.size_alloc]; omega)))
  clear hb2 k2
  go_wp2_with fail
  refine bodyPost_ret (v := .agg #[.int .i64 1, .int .i64 r, .slice none 0 0]) (by simp [results, Tryd.results102, go_sem, y0, y1, y2]) rfl ⟨rfl, ?_⟩
  exact ((HB2.out.setCell (show w.heap.size ≤ w.heap.size + 1 + 1 by omega) _).setCell (show w.heap.size ≤ w.heap.size + 1 + 1 by omega) _).setCell (show w.heap.size ≤ w.heap.size + 1 + 1 by omega) _

theorem tmd_leaf {w : World} {D : Nat → Prop} (f : Nat) {o n : Int} (ho : I64 o) (hn : I64 n) : TmD w D (f + 1) ⟨o, n, []⟩ (.agg #[.int .i64 o, .int .i64 n, .slice none 0 0]) :=
  ⟨none, 0, rfl, ho, hn, RowAt.nil (by unfold maxLen; omega)⟩

theorem shf_take_succ (b fr u : Int) (t : Tr) (k : Nat) (hk : k < t.kids.length) : (shf b fr u t).kids.take (k + 1) = (shf b fr u t).kids.take k ++ [shf b fr (u + (bnd t.op (k : Nat) : Nat)) t.kids[k]] := by
  rw [shf_eq]
  simp only
  rw [List.take_succ_eq_append_getElem (by simpa using hk), List.getElem_mapIdx]

theorem sh_fin {w wr : World} {M f : Nat} {tb cb : Obj} {t s : Tr} {p0 p1 p2 : Value} (h : ShS w wr M t.kids.length f tb cb t.op t.n (s.kids.take t.kids.length)) (hs : s.op = t.op ∧ s.n = t.n ∧ s.kids.length = t.kids.length) (ho : I64 t.op) (hn : I64 t.n) (hl : t.kids.length ≤ maxLen) :
    TmD (((wr.setCell ⟨w.heap.size + 1 + 1, 0, none⟩ p0).setCell ⟨w.heap.size + 1 + 1, 1, none⟩ p1).setCell ⟨w.heap.size + 1 + 1, 2, none⟩ p2) (fun k => w.heap.size ≤ k ∧ k < (((wr.setCell ⟨w.heap.size + 1 + 1, 0, none⟩ p0).setCell ⟨w.heap.size + 1 + 1, 1, none⟩ p1).setCell ⟨w.heap.size + 1 + 1, 2, none⟩ p2).heap.size) (f + 1) s (.agg #[.int .i64 t.op, .int .i64 t.n, .slice (some ⟨M + 1 + 1, 0, none⟩) t.kids.length t.kids.length]) := by
  obtain ⟨h1, h2, h3⟩ := hs
  have hr := h.row
  rw [← h3, List.take_length] at hr
  have hlt := h.lt
  have hsz : (((wr.setCell ⟨w.heap.size + 1 + 1, 0, none⟩ p0).setCell ⟨w.heap.size + 1 + 1, 1, none⟩ p1).setCell ⟨w.heap.size + 1 + 1, 2, none⟩ p2).heap.size = wr.heap.size := by simp [World.setCell]
  have hrow := hr.row (by rw [h3]; exact hl) (fun q => M + 1 + 1 ≤ q ∧ q < wr.heap.size) (fun q hq hq2 => ⟨hq, hq2⟩)
  refine ⟨some ⟨M + 1 + 1, 0, none⟩, t.kids.length, by rw [h1, h2, h3], by rw [h1]; exact ho, by rw [h2]; exact hn, ?_⟩
  rw [← h3]
  have oth : ∀ q, M + 1 + 1 ≤ q ∧ q < wr.heap.size → (((wr.setCell ⟨w.heap.size + 1 + 1, 0, none⟩ p0).setCell ⟨w.heap.size + 1 + 1, 1, none⟩ p1).setCell ⟨w.heap.size + 1 + 1, 2, none⟩ p2).heap[q]? = wr.heap[q]? := fun q hq => by
    rw [heap_setCell_other _ _ _ _ (show q ≠ w.heap.size + 1 + 1 by omega), heap_setCell_other _ _ _ _ (show q ≠ w.heap.size + 1 + 1 by omega), heap_setCell_other _ _ _ _ (show q ≠ w.heap.size + 1 + 1 by omega)]
  exact hrow.imp oth (fun q hq => ⟨by omega, by rw [hsz]; exact hq.2⟩) (fun x v hx => hx.keep oth (fun q hq => ⟨by omega, by rw [hsz]; exact hq.2⟩) f x v)

set_option maxRecDepth 20000 in
set_option maxHeartbeats 1000000 in
theorem shift_any (B f : Nat) (b fr : Int) : ∀ (t : Tr) (v : Value) (u : Int) (w : World), TmAt w B f t v → B ≤ w.heap.size → Tb w → 4 ≤ B → t.size ≤ 8388608 → 0 ≤ u → u + 2 * f ≤ 1000000 → Snd 1000000000 t → 0 ≤ b ∧ b ≤ 1000000 → 0 ≤ fr ∧ fr ≤ 1000000 →
    Calls Tryd.prog 102 #[v, .int .i64 u, .agg #[.int .i64 b, .int .i64 fr], .func (.func 103) #[] #[]] w fun e w' => ∃ p0 p1 pa pl pc, e = .returned (.agg #[.int .i64 p0, .int .i64 p1, .slice pa pl pc]) ∧ TmD w' (fun k => w.heap.size ≤ k ∧ k < w'.heap.size) f (shf b fr u t) (.agg #[.int .i64 p0, .int .i64 p1, .slice pa pl pc]) ∧ Below w.heap.size w w' := by
  induction f with
  | zero => intro t v u w h; exact h.elim
  | succ f ih =>
    rintro t v u w ⟨a, cap, rfl, hop, hn, hrow⟩ hB ht hB4 hsz hu0 hu1 hsd hb hf
    by_cases hq : t.op = 1 ∧ u ≤ t.n
    · have hk := hsd.top hq.1
      have h := shift_var b fr a cap t.n u _ w hn hu0 hq.2 (by omega) hk.2.2 hb hf (hide rfl)
      rw [shf_var _ _ _ hq.1 hk.1, hk.1, hq.1]
      refine h.mono ?_
      rintro e w' ⟨rfl, hbl⟩
      refine ⟨_, _, _, _, _, rfl, tmd_leaf f (by unfold I64; omega) ?_, hbl⟩
      have := hk.2
      unfold I64
      split <;> omega
    · have IH := hide ih; clear ih
      have HR := hide hrow
      have hlm : t.kids.length ≤ maxLen := Nat.le_trans hrow.1 hrow.2.1
      clear hrow
      unfold maxLen at hlm
      have HU1 := hide hu1; have HSD := hide hsd; have HT := hide ht; have HQ := hide hq; have HSZ := hide hsz; have HOP := hide hop; have HN := hide hn
      have huu : u ≤ 1000000 := by omega
      have hkl : t.kids.length ≤ 8388608 := Nat.le_trans (len_size t) hsz
      clear hu1 hsd ht hq hsz hop hn
      have HV1 : Hid (t.op = 1 → 0 ≤ t.n) := fun h => (HSD.out.top h).2.1
      have HSH : Hid ((shf b fr u t).op = t.op ∧ (shf b fr u t).n = t.n ∧ (shf b fr u t).kids.length = t.kids.length) := hide (by
        rw [shf_eq]
        simp only [List.length_mapIdx, and_true, true_and]
        by_cases ho : t.op = 1
        · rw [if_neg (fun h => HQ.out ⟨ho, by omega⟩)]
        · rw [if_neg (fun h => ho h.1)])
      go_enter Tryd.func102, Tryd.ntmps102
      go_wp2_with fail
      refine (freeat_no t.op t.n u _ _ _ _ HN.out ⟨hu0, by omega⟩ HV1.out HQ.out).mono ?_
      rintro e w1 ⟨rfl, hb1⟩
      obtain ⟨k0, k1, k2, hbl, hs1⟩ := box_three hb1
      have HB1 := hide hbl
      have HK0 := hide k0; have HK1 := hide k1; have HK2 := hide k2
      obtain ⟨c0, c1, c2⟩ := blk3 k0
      clear hb1 hbl k0 k1 k2
      obtain ⟨d0, d0', d0''⟩ := old_cell c0 (by omega)
      obtain ⟨d1, d1', d1''⟩ := old_cell c1 (by omega)
      obtain ⟨d2, d2', d2''⟩ := old_cell c2 (by omega)
      by_cases hk : t.kids = []
      · have hkz : t.kids.length = 0 := by rw [hk]; rfl
        have HKE := hide hk
        rw [hkz] at c2 d2 d2' d2'' ⊢
        clear hk hkz hkl hlm
        have k2 : ∀ o o', ((w1.alloc o).alloc o').heap[w.heap.size + 1 + 1]? = some (.cells #[.int .i64 0, .int .i64 0, .slice none 0 0] 31 (0, 0)) := old_blk3 HK2.out
        have y0 := fun o o' => (blk3 (k2 o o')).1
        have y1 := fun o o' => (blk3 (k2 o o')).2.1
        have y2 := fun o o' => (blk3 (k2 o o')).2.2
        have z0 := fun o o' => (frz3 (k2 o o')).1
        have z1 := fun o o' => (frz3 (k2 o o')).2.1
        have z2 := fun o o' => (frz3 (k2 o o')).2.2
        clear k2
        go_wp2_with fail
        have HE : Hid (shf b fr u t = ⟨t.op, t.n, []⟩) := hide (by rw [← Tr.eta (shf b fr u t), HSH.out.1, HSH.out.2.1, List.eq_nil_of_length_eq_zero (HSH.out.2.2.trans (by rw [HKE.out]; rfl))])
        refine bodyPost_ret (v := .agg #[.int .i64 t.op, .int .i64 t.n, .slice none 0 0]) (by simp [results, Tryd.results102, go_sem, y0, y1, y2]) rfl ⟨_, _, _, _, _, rfl, by rw [HE.out]; exact tmd_leaf f HOP.out HN.out, ?_⟩
        exact ((((HB1.out.alloc (by omega) _).alloc (by simp; omega) _).setCell (show w.heap.size ≤ w.heap.size + 1 + 1 by omega) _).setCell (show w.heap.size ≤ w.heap.size + 1 + 1 by omega) _).setCell (show w.heap.size ≤ w.heap.size + 1 + 1 by omega) _
      · have hk0 : ((t.kids.length : Int) == 0) = false := ne_beq (by have : t.kids.length ≠ 0 := fun e => hk (List.eq_nil_of_length_eq_zero e); omega)
        have HKN := hide hk
        clear hk
        obtain ⟨cs, hcs, hmk⟩ := make29 ((w1.alloc (.cells #[.int .i64 0, .int .i64 0] 130)).alloc (.cells #[.int .i64 t.op, .int .i64 t.n, .slice none 0 0] 31)) t.kids.length (by omega)
        have HCS := hide hcs
        clear hcs
        have HS0 : Hid (ShS w (((w1.alloc (.cells #[.int .i64 0, .int .i64 0] 130)).alloc (.cells #[.int .i64 t.op, .int .i64 t.n, .slice (some ⟨w1.heap.size + 1 + 1, 0, none⟩) t.kids.length t.kids.length] 31)).alloc (.cells cs 31)) w1.heap.size t.kids.length f (.cells #[.int .i64 t.op, .int .i64 t.n, .slice a t.kids.length cap] 31) (.cells #[.int .i64 b, .int .i64 fr] 140) t.op t.n ((shf b fr u t).kids.take 0)) := hide (shs_start HB1.out HK0.out HK1.out HK2.out HCS.out hs1)
        go_wp2_with fail
        clear c0 c1 c2 d0 d1 d2 d0' d1' d2' d0'' d1'' d2''
        generalize (((w1.alloc (.cells #[.int .i64 0, .int .i64 0] 130)).alloc (.cells #[.int .i64 t.op, .int .i64 t.n, .slice (some ⟨w1.heap.size + 1 + 1, 0, none⟩) t.kids.length t.kids.length] 31)).alloc (.cells cs 31)) = w2 at *
        go_loopw [12, 43] (fun _ i wr => ∃ k : Nat, k ≤ t.kids.length ∧ i = .int .i64 k ∧ Hid (ShS w wr w1.heap.size t.kids.length f (.cells #[.int .i64 t.op, .int .i64 t.n, .slice a t.kids.length cap] 31) (.cells #[.int .i64 b, .int .i64 fr] 140) t.op t.n ((shf b fr u t).kids.take k))) (fun _ i _ => t.kids.length - (intOf i).toNat)
        case atStart => exact ⟨0, Nat.zero_le _, rfl, HS0⟩
        case round =>
          obtain ⟨k, hk, rfl, HX⟩ := hrel
          clear HS0
          by_cases hlt : k < t.kids.length
          · obtain ⟨b2, off, ka, kc, rfl, hbB, f0, f1, f2, hr⟩ := HR.out.form hlt
            have HBX : Hid (Below w.heap.size w wr) := HX.out.bl
            have e0 := (HBX.out.cell (p := ⟨b2, off + k * 3, none⟩) (show b2 < w.heap.size by omega)).trans f0
            have e1 := (HBX.out.cell (p := ⟨b2, off + k * 3 + 1, none⟩) (show b2 < w.heap.size by omega)).trans f1
            have e2 := (HBX.out.cell (p := ⟨b2, off + k * 3 + 2, none⟩) (show b2 < w.heap.size by omega)).trans f2
            have HS := hide (shf_take_succ b fr u t k hlt)
            have HMEM := hide (List.getElem_mem hlt)
            have hkz := Tr.kid_size (List.getElem_mem hlt)
            have HKZ : Hid (t.kids[k].size ≤ 8388608) := hide (by have := HSZ.out; omega)
            clear f0 f1 f2 hkz
            obtain ⟨p, hp⟩ : ∃ p, p = t.kids[k] := ⟨_, rfl⟩
            rw [← hp] at e0 e1 e2 hr HS HKZ HMEM
            clear hp
            have HRK := hide hr
            clear hr
            have hsr : w1.heap.size + 1 + 1 < wr.heap.size := by obtain ⟨cs', h1, _⟩ := HX.out.row; exact size_of_block h1
            have HW3 : Hid (Below w.heap.size w (wr.alloc (.cells #[.int .i64 p.op, .int .i64 p.n, .slice ka p.kids.length kc] 31))) := HBX.out.alloc (by omega) _
            have HT3 : Hid (Tb (wr.alloc (.cells #[.int .i64 p.op, .int .i64 p.n, .slice ka p.kids.length kc] 31))) := HT.out.later HW3.out
            have g0 := (old_cell ((cell_of_block HX.out.b0 0).trans rfl) (size_of_block HX.out.b0)).1
            have g1 := (old_cell ((cell_of_block HX.out.b1 0).trans rfl) (size_of_block HX.out.b1)).1
            have g2 := (old_cell ((cell_of_block HX.out.b1 1).trans rfl) (size_of_block HX.out.b1)).1
            have g3 := (old_cell ((cell_of_block HX.out.bo 2).trans rfl) (size_of_block HX.out.bo)).1
            obtain ⟨bn, hbn⟩ : ∃ bn : Int, bn = (bnd t.op (k : Nat) : Nat) := ⟨_, rfl⟩
            have hbn0 : 0 ≤ bn := by omega
            have hbn2 : bn ≤ 2 := by have := bnd_le t.op (k : Nat); omega
            have hwu : IntKind.i64.wrap (u + bn) = u + bn := by rw [IntKind.wrap_i64]; omega
            have HBI : Hid (∀ w', Tb w' → Calls Tryd.prog 99 #[.int .i64 t.op, .int .i64 (k : Nat)] w' fun e w'' => e = .returned (.int .i64 bn) ∧ w'' = w') := hide (fun w' h' => by rw [hbn]; exact tbinders_any t.op (k : Nat) w' h')
            rw [← hbn] at HS
            clear hbn
            have HC : Hid (Calls Tryd.prog 102 #[.agg #[.int .i64 p.op, .int .i64 p.n, .slice ka p.kids.length kc], .int .i64 (u + bn), .agg #[.int .i64 b, .int .i64 fr], .func (.func 103) #[] #[]] (wr.alloc (.cells #[.int .i64 p.op, .int .i64 p.n, .slice ka p.kids.length kc] 31)).drew fun e w' => ∃ p0 p1 pa pl pc, e = .returned (.agg #[.int .i64 p0, .int .i64 p1, .slice pa pl pc]) ∧ TmD w' (fun k => (wr.alloc (.cells #[.int .i64 p.op, .int .i64 p.n, .slice ka p.kids.length kc] 31)).drew.heap.size ≤ k ∧ k < w'.heap.size) f (shf b fr (u + bn) p) (.agg #[.int .i64 p0, .int .i64 p1, .slice pa pl pc]) ∧ Below (wr.alloc (.cells #[.int .i64 p.op, .int .i64 p.n, .slice ka p.kids.length kc] 31)).drew.heap.size (wr.alloc (.cells #[.int .i64 p.op, .int .i64 p.n, .slice ka p.kids.length kc] 31)).drew w') :=
              hide (IH.out p _ (u + bn) _ (TmD.drew (TmAt.below HRK.out HW3.out hB (Nat.le_refl _))) (by rw [size_drew, World.size_alloc]; omega) HT3.out.drew hB4 HKZ.out (by omega) (by have := HU1.out; omega) (HSD.out.kid HMEM.out) hb hf)
            go_wp2_with fail
            go_region_held3 (fun w' => w'.cell? ⟨wr.heap.size, 0, none⟩ = some (.int .i64 p.op) ∧ w'.cell? ⟨wr.heap.size, 1, none⟩ = some (.int .i64 p.n) ∧ w'.cell? ⟨wr.heap.size, 2, none⟩ = some (.slice ka p.kids.length kc) ∧ w'.cell? ⟨w.heap.size, 0, none⟩ = some (.int .i64 t.op) ∧ w'.cell? ⟨w.heap.size + 1, 0, none⟩ = some (.int .i64 b) ∧ w'.cell? ⟨w.heap.size + 1, 1, none⟩ = some (.int .i64 fr) ∧ w'.cell? ⟨w1.heap.size + 1, 2, none⟩ = some (.slice (some ⟨w1.heap.size + 1 + 1, 0, none⟩) t.kids.length t.kids.length))
              (first | exact HS5.out | exact held_put HS5.out (by omega) (by omega) (by omega) (by omega) | go_keep)
              (first
               | (go_at_call 99; refine (HBI.out _ HT3.out.drew).mono ?_; rintro e w4 ⟨rfl, rfl⟩)
               | (go_at_call 102; refine HC.out.mono ?_; rintro e w5 ⟨p0, p1, pa, pl, pc, rfl, ht5, hb5⟩; have HS5 := hide (held_sh hb5 (g0 _) (g1 _) (g2 _) (g3 _) (size_of_block HX.out.b0) (size_of_block HX.out.b1) (size_of_block HX.out.bo)); have HX5 := hide (HX.out.later (w5 := w5) (drew_below2 hb5)); have HT5 := hide (ht5.keep (D' := fun q => w1.heap.size + 1 + 1 < q ∧ q < w5.heap.size) (fun _ _ => rfl) (fun q hq => ⟨Nat.lt_of_lt_of_le hsr (Nat.le_trans (drew_le _ _) hq.1), hq.2⟩) f _ _); obtain ⟨⟨v0, r0⟩, z0⟩ := HX5.out.row.cells (i := k * 3) (by omega); obtain ⟨⟨v1, r1⟩, z1⟩ := HX5.out.row.cells (i := k * 3 + 1) (by omega); obtain ⟨⟨v2, r2⟩, z2⟩ := HX5.out.row.cells (i := k * 3 + 2) (by omega); clear ht5 hb5))
            all_goals
              have HX6 := hide (HX5.out.put (k := k) (by rw [List.length_take, HSH.out.2.2]; omega) hlt HT5.out)
              go_wp2_with fail
              go_roundw
              case rel => exact ⟨k + 1, by omega, by go_num, by rw [HS.out]; exact HX6.out⟩
              case measure => simp [intOf]; omega
          · have hke : k = t.kids.length := by omega
            subst hke
            obtain ⟨y0, y1, y2⟩ := blk3 HX.out.b2
            obtain ⟨z0, z1, z2⟩ := frz3 HX.out.b2
            obtain ⟨x0, x1, x2⟩ := blk3 HX.out.bo
            go_wp2_with fail
            refine bodyPost_ret (v := .agg #[.int .i64 t.op, .int .i64 t.n, .slice (some ⟨w1.heap.size + 1 + 1, 0, none⟩) t.kids.length t.kids.length]) (by simp [results, Tryd.results102, go_sem, y0, y1, y2]) rfl ⟨_, _, _, _, _, rfl, ?_, ?_⟩
            · exact sh_fin HX.out HSH.out HOP.out HN.out (by unfold maxLen; omega)
            · exact ((HX.out.bl.setCell (show w.heap.size ≤ w.heap.size + 1 + 1 by omega) _).setCell (show w.heap.size ≤ w.heap.size + 1 + 1 by omega) _).setCell (show w.heap.size ≤ w.heap.size + 1 + 1 by omega) _
#print axioms shift_any
end Go.Proofs.YtjiecahopdaghaaDoor
