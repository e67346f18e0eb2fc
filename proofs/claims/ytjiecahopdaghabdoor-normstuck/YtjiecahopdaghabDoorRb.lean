/- Rows of terms that are made at once and filled one by one. -/
import Derived.Test.YtjiecahopdaghabDoorCo
import Derived.Test.YtjiecahopdaghabDoorPv
import Derived.Laws.MakeOwn
namespace Go.Proofs.YtjiecahopdaghabDoor
open Go.RowKit

theorem len_size (t : Tr) : t.kids.length ≤ t.size := by
  have : ∀ l : List Tr, l.length ≤ (l.map Tr.size).sum := by
    intro l
    induction l with
    | nil => simp
    | cons x l ih => have := x.size_pos; simp; omega
  have := this t.kids
  rw [Tr.size_eq]; omega
theorem box_three {w w1 : World} {x0 x1 x2 : Array Value} {T0 T1 T2 : TypeId} (hb : Below (((w.alloc (.cells x0 T0)).alloc (.cells x1 T1)).alloc (.cells x2 T2)).heap.size (((w.alloc (.cells x0 T0)).alloc (.cells x1 T1)).alloc (.cells x2 T2)) w1) :
    w1.heap[w.heap.size]? = some (.cells x0 T0) ∧ w1.heap[w.heap.size + 1]? = some (.cells x1 T1) ∧ w1.heap[w.heap.size + 2]? = some (.cells x2 T2) ∧ Below w.heap.size w w1 ∧ w.heap.size + 3 ≤ w1.heap.size := by
  have hsz : (((w.alloc (.cells x0 T0)).alloc (.cells x1 T1)).alloc (.cells x2 T2)).heap.size = w.heap.size + 3 := by simp
  have h0 := heap_alloc_new w (.cells x0 T0)
  have h1 := heap_alloc_new (w.alloc (.cells x0 T0)) (.cells x1 T1)
  have h2 := heap_alloc_new ((w.alloc (.cells x0 T0)).alloc (.cells x1 T1)) (.cells x2 T2)
  rw [World.size_alloc] at h1
  rw [World.size_alloc, World.size_alloc] at h2
  refine ⟨?_, ?_, ?_, ?_, ?_⟩
  · rw [hb.block _ (by omega), Below.heap_alloc _ _ _ (by simp; omega), Below.heap_alloc _ _ _ (by simp)]; exact h0
  · rw [hb.block _ (by omega), Below.heap_alloc _ _ _ (by simp)]; exact h1
  · rw [hb.block _ (by omega)]; exact h2
  · exact (((Below.refl w.heap.size w).alloc (Nat.le_refl _) _).alloc (by simp) _).alloc (by simp; omega) _ |>.trans (hb.mono (by omega))
  · have := hb.size; omega

theorem make29 (w : World) (n : Nat) (hn : n ≤ 1000000000) : ∃ cs : Array Value, cs.size = n * 3 ∧ (Instr.makeSlice 24 (.int .i64 (n : Int)) (.int .i64 (n : Int))).run Tryd.prog w = .ok (.slice (some ⟨w.heap.size, 0, none⟩) n n) (w.alloc (.cells cs 26)) := by
  obtain ⟨i, hi, hz0, hz1, hz2⟩ := info_parts Tryd.info26
  have h := run_make (P := Tryd.prog) w 24 26 i _ Tryd.underlying24 hi hz0 .i64 .i64 n n (by omega) (by omega) (by rw [hz2]; omega) (by omega)
  rw [hz1, Int.toNat_natCast] at h
  exact ⟨_, size_madeCells _ _, h⟩
theorem old_cell {w : World} {q i : Nat} {x : Value} (h : w.cell? ⟨q, i, none⟩ = some x) (hq : q < w.heap.size) : (∀ o, (w.alloc o).cell? ⟨q, i, none⟩ = some x) ∧ (∀ o o', ((w.alloc o).alloc o').cell? ⟨q, i, none⟩ = some x) ∧ (∀ o o' o'', (((w.alloc o).alloc o').alloc o'').cell? ⟨q, i, none⟩ = some x) := by
  have h1 : ∀ o, (w.alloc o).cell? ⟨q, i, none⟩ = some x := fun o => (World.cell?_of_block (w := w) (Below.heap_alloc w o q hq)).trans h
  have h2 : ∀ o o', ((w.alloc o).alloc o').cell? ⟨q, i, none⟩ = some x := fun o o' => (World.cell?_of_block (w := w.alloc o) (Below.heap_alloc _ o' q (by simp; omega))).trans (h1 o)
  exact ⟨h1, h2, fun o o' o'' => (World.cell?_of_block (w := (w.alloc o).alloc o') (Below.heap_alloc _ o'' q (by simp; omega))).trans (h2 o o')⟩

/-- A row of n places, the first of which hold trees that lie in blocks behind it. -/
def RowTo (w : World) (rb n f : Nat) (ts : List Tr) : Prop := ∃ cs : Array Value, w.heap[rb]? = some (.cells cs 26 (0, 0)) ∧ cs.size = n * 3 ∧
  ∀ (i : Nat) (h : i < ts.length), ∃ x0 x1 x2, cs[i * 3]? = some x0 ∧ cs[i * 3 + 1]? = some x1 ∧ cs[i * 3 + 2]? = some x2 ∧ TmD w (fun q => rb < q ∧ q < w.heap.size) f ts[i] (.agg #[x0, x1, x2])

theorem RowTo.nil {w : World} {rb n f : Nat} {cs : Array Value} (h : w.heap[rb]? = some (.cells cs 26 (0, 0))) (hs : cs.size = n * 3) : RowTo w rb n f [] := ⟨cs, h, hs, fun _ h => absurd h (by simp)⟩

theorem RowTo.later {w w' : World} {rb n f : Nat} {ts : List Tr} (h : RowTo w rb n f ts) (hb : Below w.heap.size w w') : RowTo w' rb n f ts := by
  obtain ⟨cs, h1, h2, h3⟩ := h
  refine ⟨cs, (hb.block _ (size_of_block h1)).trans h1, h2, fun i hi => ?_⟩
  obtain ⟨x0, x1, x2, e0, e1, e2, ht⟩ := h3 i hi
  have hs := hb.size
  exact ⟨x0, x1, x2, e0, e1, e2, ht.keep (fun q hq => hb.block q hq.2) (fun q hq => ⟨hq.1, by omega⟩) f _ _⟩

theorem RowTo.put {w5 : World} {rb n f k : Nat} {ts : List Tr} {t' : Tr} {p0 p1 p2 : Value} (h : RowTo w5 rb n f ts) (hk : ts.length = k) (hkn : k < n)
    (ht : TmD w5 (fun q => rb < q ∧ q < w5.heap.size) f t' (.agg #[p0, p1, p2])) :
    RowTo (((w5.setCell ⟨rb, k * 3, none⟩ p0).setCell ⟨rb, k * 3 + 1, none⟩ p1).setCell ⟨rb, k * 3 + 2, none⟩ p2) rb n f (ts ++ [t']) := by
  obtain ⟨cs, h1, h2, h3⟩ := h
  have b1 := heap_setCell_same _ _ (k * 3) _ _ p0 h1
  have b2 := heap_setCell_same _ _ (k * 3 + 1) _ _ p1 b1
  have b3 := heap_setCell_same _ _ (k * 3 + 2) _ _ p2 b2
  have hsz : (((w5.setCell ⟨rb, k * 3, none⟩ p0).setCell ⟨rb, k * 3 + 1, none⟩ p1).setCell ⟨rb, k * 3 + 2, none⟩ p2).heap.size = w5.heap.size := by simp [World.setCell]
  have oth : ∀ q, rb < q → (((w5.setCell ⟨rb, k * 3, none⟩ p0).setCell ⟨rb, k * 3 + 1, none⟩ p1).setCell ⟨rb, k * 3 + 2, none⟩ p2).heap[q]? = w5.heap[q]? := fun q hq => by
    rw [heap_setCell_other _ _ _ _ (show q ≠ rb by omega), heap_setCell_other _ _ _ _ (show q ≠ rb by omega), heap_setCell_other _ _ _ _ (show q ≠ rb by omega)]
  have hD : ∀ t v, TmD w5 (fun q => rb < q ∧ q < w5.heap.size) f t v → TmD (((w5.setCell ⟨rb, k * 3, none⟩ p0).setCell ⟨rb, k * 3 + 1, none⟩ p1).setCell ⟨rb, k * 3 + 2, none⟩ p2) (fun q => rb < q ∧ q < (((w5.setCell ⟨rb, k * 3, none⟩ p0).setCell ⟨rb, k * 3 + 1, none⟩ p1).setCell ⟨rb, k * 3 + 2, none⟩ p2).heap.size) f t v := fun t v h =>
    h.keep (fun q hq => oth q hq.1) (fun q hq => ⟨hq.1, by rw [hsz]; exact hq.2⟩) f t v
  refine ⟨_, b3, by simp [h2], fun i hi => ?_⟩
  by_cases hlt : i < ts.length
  · obtain ⟨x0, x1, x2, e0, e1, e2, hx⟩ := h3 i hlt
    refine ⟨x0, x1, x2, ?_, ?_, ?_, by rw [List.getElem_append_left hlt]; exact hD _ _ hx⟩
    · rw [Array.getElem?_setIfInBounds_ne (by omega), Array.getElem?_setIfInBounds_ne (by omega), Array.getElem?_setIfInBounds_ne (by omega)]; exact e0
    · rw [Array.getElem?_setIfInBounds_ne (by omega), Array.getElem?_setIfInBounds_ne (by omega), Array.getElem?_setIfInBounds_ne (by omega)]; exact e1
    · rw [Array.getElem?_setIfInBounds_ne (by omega), Array.getElem?_setIfInBounds_ne (by omega), Array.getElem?_setIfInBounds_ne (by omega)]; exact e2
  · have he : i = k := by simp at hi; omega
    subst he
    refine ⟨p0, p1, p2, ?_, ?_, ?_, by rw [List.getElem_append_right (by omega)]; simp only [hk, Nat.sub_self, List.getElem_cons_zero]; exact hD _ _ ht⟩
    · rw [Array.getElem?_setIfInBounds_ne (by omega), Array.getElem?_setIfInBounds_ne (by omega), Array.getElem?_setIfInBounds_self_of_lt (by omega)]
    · rw [Array.getElem?_setIfInBounds_ne (by omega), Array.getElem?_setIfInBounds_self_of_lt (by simp; omega)]
    · rw [Array.getElem?_setIfInBounds_self_of_lt (by simp; omega)]

theorem row_blk' {w : World} {D : Nat → Prop} {R : Tr → Value → Prop} {ts : List Tr} {b : Nat} {cs : Array Value} {T : TypeId} {fr : Nat × Nat} (hb : w.heap[b]? = some (.cells cs T fr)) (hD : D b) (hl : ts.length ≤ maxLen)
    (h : ∀ (i : Nat) (h : i < ts.length), ∃ x0 x1 x2, cs[i * 3]? = some x0 ∧ cs[i * 3 + 1]? = some x1 ∧ cs[i * 3 + 2]? = some x2 ∧ R ts[i] (.agg #[x0, x1, x2])) : RowAt w D R ts (some ⟨b, 0, none⟩) ts.length := by
  refine ⟨Nat.le_refl _, hl, fun _ => ⟨b, 0, rfl, hD, fun i hi => ?_⟩⟩
  obtain ⟨x0, x1, x2, h0, h1, h2, hr⟩ := h i hi
  refine ⟨x0, x1, x2, ?_, ?_, ?_, hr⟩
  · rw [cell_of_block hb, Nat.zero_add]; exact h0
  · rw [cell_of_block hb, Nat.zero_add]; exact h1
  · rw [cell_of_block hb, Nat.zero_add]; exact h2
theorem RowTo.row {w : World} {rb f : Nat} {ts : List Tr} (h : RowTo w rb ts.length f ts) (hl : ts.length ≤ maxLen) (D : Nat → Prop) (hD : ∀ q, rb ≤ q → q < w.heap.size → D q) : RowAt w D (TmD w D f) ts (some ⟨rb, 0, none⟩) ts.length := by
  obtain ⟨cs, h1, h2, h3⟩ := h
  refine row_blk' h1 (hD rb (Nat.le_refl _) (size_of_block h1)) hl (fun i hi => ?_)
  obtain ⟨x0, x1, x2, e0, e1, e2, hx⟩ := h3 i hi
  exact ⟨x0, x1, x2, e0, e1, e2, hx.keep (fun _ _ => rfl) (fun q hq => hD q (by omega) hq.2) f _ _⟩

theorem RowTo.cells {w : World} {rb n f : Nat} {ts : List Tr} (h : RowTo w rb n f ts) {i : Nat} (hi : i < n * 3) : (∃ x, w.cell? ⟨rb, i, none⟩ = some x) ∧ w.frozen? ⟨rb, i, none⟩ = false := by
  obtain ⟨cs, h1, h2, h3⟩ := h
  refine ⟨⟨cs[i]'(by omega), ?_⟩, frozen_of_block h1 i⟩
  rw [cell_of_block h1, Array.getElem?_eq_getElem (by omega)]
#print axioms RowTo.put
end Go.Proofs.YtjiecahopdaghabDoor
