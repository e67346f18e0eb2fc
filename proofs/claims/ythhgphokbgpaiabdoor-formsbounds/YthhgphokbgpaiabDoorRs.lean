/- The reader's method shut: the nearest list is closed. -/
import Derived.Test.YthhgphokbgpaiabDoorRm
namespace Go.Proofs.YthhgphokbgpaiabDoor
open Go.RowKit

theorem three_new (w : World) (o1 o2 o3 : Obj) : ∃ W, ((((w.alloc o1).alloc o2).alloc o3).drew = W) ∧ Below w.heap.size w W ∧ W.heap.size = w.heap.size + 3 ∧ W.heap[w.heap.size + 1]? = some o2 := by
  refine ⟨_, rfl, ?_, ?_, ?_⟩
  · have := ((((Below.refl w.heap.size w).alloc (Nat.le_refl _) o1).alloc (by simp) o2).alloc (by simp; omega) o3)
    exact ⟨this.os, this.tape, this.output, this.size, this.block⟩
  · rw [size_drew, World.size_alloc, World.size_alloc, World.size_alloc]
  · show (((w.alloc o1).alloc o2).alloc o3).heap[w.heap.size + 1]? = some o2
    rw [Below.heap_alloc _ _ _ (by rw [World.size_alloc, World.size_alloc]; omega)]
    have := heap_alloc_new (w.alloc o1) o2
    rwa [World.size_alloc] at this

theorem new_block0 (w : World) (o : Obj) : (w.alloc o).drew.heap[w.heap.size]? = some o := heap_alloc_new w o

/-- What a method answers. -/
def RdOut (w : World) (rb B : Nat) (st0 : List (List Fm)) (cur : List Fm) (e : Ending) (w' : World) : Prop :=
  e = .returned (.int .i64 0) ∧ Fr (fun q => q = rb ∨ B ≤ q) w w' ∧ ∃ vs0 cv ov, Rd w' rb B vs0 cv ov st0 cur

theorem old_block {w W5 w6 : World} {o : Obj} {b : Nat} {row : Option Nat} (hb : b < w.heap.size) (hB5 : Below w.heap.size w W5) (HG : (W5.alloc o).drew.grownBy w6 row) (hne : row ≠ some b) : w6.heap[b]? = w.heap[b]? := by
  have h5 := hB5.size
  rw [HG.block b (by rw [size_drew, World.size_alloc]; omega) (fun e => hne e.symm)]
  show (W5.alloc o).heap[b]? = _
  rw [Below.heap_alloc _ _ _ (by omega)]
  exact hB5.block b hb

theorem shut_fin {w W5 w6 W : World} {o : Obj} {rb B og m oc g6 cap6 : Nat} {vs1 : List Value} {uv cv : Value} {st1 : List (List Fm)} {up cur : List Fm} {xs : List Value} {e : Ending} (he : e = .returned (.int .i64 0))
    (h : Rd w rb B (vs1 ++ [uv]) cv (.slice (some ⟨og, 0, none⟩) (m + 1) oc) (st1 ++ [up]) cur) (hm : vs1.length = m) (hd : st1.length ≤ 30)
    (hk : KidsAt w (Free w B (.slice (some ⟨og, 0, none⟩) (m + 1) oc) ((vs1 ++ [uv]) ++ [cv])) (31 - st1.length) up xs) (hB5 : Below w.heap.size w W5) (HG : (W5.alloc o).drew.grownBy w6 uv.ownBlock) (HA : uv.ownBlock = some g6 ∨ g6 = W5.heap.size + 1)
    (h1 : W.heap[rb]? = some (.cells #[.slice (some ⟨g6, 0, none⟩) (up.length + 1) cap6, .slice (some ⟨og, 0, none⟩) m oc] 39 (0, 0)))
    (h2 : W.ownsRow B 25 4 (.slice (some ⟨g6, 0, none⟩) (up.length + 1) cap6) (up.length + 1) (xs ++ [.int .i64 3, .int .i64 0, .string ⟨#[]⟩, cv]))
    (h3 : ∀ q, q ≠ rb → q ≠ g6 → W.heap[q]? = w6.heap[q]?) (h4 : W.os = w6.os) (h5 : W.tape = w6.tape) (h6 : W.output = w6.output) (h7 : W.heap.size = w6.heap.size) :
    RdOut w rb B st1 (up ++ [⟨3, 0, [], cur⟩]) e W := by
  have hB := h.lt
  have hap := h.apart.front.last
  have hs5 := hB5.size
  have hg2 : uv.ownBlock = some g6 ∨ w.heap.size ≤ g6 := HA.imp id (fun x => by omega)
  have hs6 : W5.heap.size + 1 ≤ w6.heap.size := by have := HG.size; rw [size_drew, World.size_alloc] at this; exact this
  have hog := h.own.lt og rfl
  have hgo : og ≠ g6 := fun x => by
    subst x
    rcases hg2 with x | x
    · exact hap.2 og x rfl
    · omega
  have hfr : Fr (fun q => q = rb ∨ uv.ownBlock = some q) w W := by
    refine ⟨by rw [h4, HG.os]; exact hB5.os, by rw [h5, HG.tape]; exact hB5.tape, by rw [h6, HG.output]; exact hB5.output, by omega, fun q hq hn => ?_⟩
    rw [h3 q (fun x => hn (Or.inl x)) (fun x => ?_)]
    · exact old_block hq hB5 HG (fun x => hn (Or.inr x))
    · subst x
      rcases hg2 with x | x
      · exact hn (Or.inr x)
      · omega
  refine ⟨he, hfr.mono (fun q hq => ?_), vs1, _, _, h.shut hd hk h1 hfr h2 ?_ rfl rfl hg2⟩
  · rcases hq with hq | hq
    · exact Or.inl hq
    · exact Or.inr (h.rows.lt uv (by simp) q hq).1
  · have hl : (vs1 ++ [uv]).length = m + 1 := by simp [hm]
    have ho := h.own
    rw [hl] at ho
    rw [hm]
    refine owns_cut (n := m + 1) (ys := [uv]) ?_ m (by omega) (by omega) (by simp)
    refine (owns_same ho (fun g hg => ?_))
    have : og = g := by simpa [Value.ownBlock] using hg
    subst this
    rw [h3 og (by omega) hgo]
    exact old_block hog.2 hB5 HG (fun x => hap.2 og x rfl)

theorem cut_own {w : World} {base n m og oc : Nat} {e : TypeId} {v : Value} {vs : List Value} (h : w.ownsRow base e 1 (.slice (some ⟨og, 0, none⟩) (n + 1) oc) (n + 1) (vs ++ [v])) (hm : vs.length = m) (hn : n = m) : w.cell? ⟨og, m, none⟩ = some v := by
  subst hn
  rw [h.cellAt n (by omega), List.getElem?_append_right (by omega), hm]
  simp

/-- What stands in memory behind the append. -/
theorem shut_facts {w W5 w6 : World} {o : Obj} {rb B l uc : Nat} {ua : Option Addr} {cv ov : Value} {xs : List Value} (hB : rb < B) (HB : w.heap[rb]? = some (.cells #[cv, ov] 39 (0, 0))) (HO : w.ownsRow B 25 4 (.slice ua l uc) l xs)
    (hB5 : Below w.heap.size w W5) (HG : (W5.alloc o).drew.grownBy w6 (Value.slice ua l uc).ownBlock) :
    w6.heap[rb]? = some (.cells #[cv, ov] 39 (0, 0)) ∧ w6.cell? ⟨rb, 0, none⟩ = some cv ∧ w6.cell? ⟨rb, 1, none⟩ = some ov ∧ w6.frozen? ⟨rb, 0, none⟩ = false ∧ w6.frozen? ⟨rb, 1, none⟩ = false := by
  have hrb : w6.heap[rb]? = some (.cells #[cv, ov] 39 (0, 0)) := (old_block (size_of_block HB) hB5 HG (fun x => by have := HO.lt rb x; omega)).trans HB
  exact ⟨hrb, (cell_of_block hrb 0).trans rfl, (cell_of_block hrb 1).trans rfl, frozen_of_block hrb 0, frozen_of_block hrb 1⟩

theorem elem_facts {w6 : World} {base l g6 cap6 : Nat} {x0 x1 x2 x3 : Value} {xs : List Value} (ho : w6.ownsRow base 25 4 (.slice (some ⟨g6, 0, none⟩) (l + 1) cap6) (l + 1) (xs ++ [x0, x1, x2, x3])) (hl : xs.length = l * 4) :
    w6.cell? ⟨g6, l * 4, none⟩ = some x0 ∧ w6.cell? ⟨g6, l * 4 + 1, none⟩ = some x1 ∧ w6.cell? ⟨g6, l * 4 + 2, none⟩ = some x2 ∧ w6.cell? ⟨g6, l * 4 + 3, none⟩ = some x3 ∧
    w6.frozen? ⟨g6, l * 4, none⟩ = false ∧ w6.frozen? ⟨g6, l * 4 + 1, none⟩ = false ∧ w6.frozen? ⟨g6, l * 4 + 2, none⟩ = false ∧ w6.frozen? ⟨g6, l * 4 + 3, none⟩ = false := by
  have key : ∀ j x, j < 4 → [x0, x1, x2, x3][j]? = some x → w6.cell? ⟨g6, l * 4 + j, none⟩ = some x := fun j x hj hx => by
    rw [ho.cellAt (l * 4 + j) (by omega), List.getElem?_append_right (by omega), hl, Nat.add_sub_cancel_left]
    exact hx
  exact ⟨key 0 _ (by decide) rfl, key 1 _ (by decide) rfl, key 2 _ (by decide) rfl, key 3 _ (by decide) rfl, ho.frozenAt _, ho.frozenAt _, ho.frozenAt _, ho.frozenAt _⟩

theorem two_blk {w6 : World} {rb : Nat} {cv ov a b : Value} (hrb : w6.heap[rb]? = some (.cells #[cv, ov] 39 (0, 0))) : ((w6.setCell ⟨rb, 0, none⟩ a).setCell ⟨rb, 1, none⟩ b).heap[rb]? = some (.cells #[a, b] 39 (0, 0)) := by
  rw [heap_setCell_same _ _ _ _ _ _ (heap_setCell_same _ _ _ _ _ _ hrb)]; rfl

theorem shut_8 {w W5 w6 : World} {o : Obj} {rb B og m oc l uc g6 cap6 : Nat} {ua : Option Addr} {vs1 : List Value} {cv : Value} {st1 : List (List Fm)} {up cur : List Fm} {xs : List Value} {e : Ending} (he : e = .returned (.int .i64 0)) (hul : up.length = l)
    (h : Rd w rb B (vs1 ++ [.slice ua l uc]) cv (.slice (some ⟨og, 0, none⟩) (m + 1) oc) (st1 ++ [up]) cur) (hm : vs1.length = m) (hd : st1.length ≤ 30) (HO : w.ownsRow B 25 4 (.slice ua l uc) l xs)
    (hk : KidsAt w (Free w B (.slice (some ⟨og, 0, none⟩) (m + 1) oc) ((vs1 ++ [.slice ua l uc]) ++ [cv])) (31 - st1.length) up xs) (hB5 : Below w.heap.size w W5) (HG : (W5.alloc o).drew.grownBy w6 (Value.slice ua l uc).ownBlock) (HA : (Value.slice ua l uc).ownBlock = some g6 ∨ g6 = W5.heap.size + 1)
    (HO6 : w6.ownsRow B 25 4 (.slice (some ⟨g6, 0, none⟩) (l + 1) cap6) (l + 1) (xs ++ [.int .i64 3, .int .i64 0, .string ⟨#[]⟩, cv])) :
    RdOut w rb B st1 (up ++ [⟨3, 0, [], cur⟩]) e ((w6.setCell ⟨rb, 0, none⟩ (.slice (some ⟨g6, 0, none⟩) (l + 1) cap6)).setCell ⟨rb, 1, none⟩ (.slice (some ⟨og, 0, none⟩) m oc)) := by
  subst hul
  obtain ⟨hrb, _⟩ := shut_facts h.lt h.blk HO hB5 HG
  refine shut_fin he h hm hd hk hB5 HG HA (two_blk hrb) (ownsRow_setCell_below (ownsRow_setCell_below HO6 (by show rb < B; exact h.lt) _) (by show rb < B; exact h.lt) _) (fun q h1 _ => by rw [heap_setCell_other _ _ _ _ (show q ≠ rb from h1), heap_setCell_other _ _ _ _ (show q ≠ rb from h1)]) ?_ ?_ ?_ ?_
  · rw [os_setCell, os_setCell]
  · rw [tape_setCell, tape_setCell]
  · rw [output_setCell, output_setCell]
  · rw [size_setCell, size_setCell]

theorem shut_6 {w W5 w6 : World} {o : Obj} {rb B og m oc l uc g6 cap6 : Nat} {ua : Option Addr} {vs1 : List Value} {cv x0 x1 x2 x3 : Value} {st1 : List (List Fm)} {up cur : List Fm} {xs : List Value} {e : Ending} (he : e = .returned (.int .i64 0)) (hul : up.length = l)
    (h : Rd w rb B (vs1 ++ [.slice ua l uc]) cv (.slice (some ⟨og, 0, none⟩) (m + 1) oc) (st1 ++ [up]) cur) (hm : vs1.length = m) (hd : st1.length ≤ 30) (HO : w.ownsRow B 25 4 (.slice ua l uc) l xs)
    (hk : KidsAt w (Free w B (.slice (some ⟨og, 0, none⟩) (m + 1) oc) ((vs1 ++ [.slice ua l uc]) ++ [cv])) (31 - st1.length) up xs) (hB5 : Below w.heap.size w W5) (HG : (W5.alloc o).drew.grownBy w6 (Value.slice ua l uc).ownBlock) (HA : (Value.slice ua l uc).ownBlock = some g6 ∨ g6 = W5.heap.size + 1)
    (HO6 : w6.ownsRow B 25 4 (.slice (some ⟨g6, 0, none⟩) (l + 1) cap6) (l + 1) (xs ++ [x0, x1, x2, x3])) :
    RdOut w rb B st1 (up ++ [⟨3, 0, [], cur⟩]) e ((set4 (w6.setCell ⟨rb, 0, none⟩ (.slice (some ⟨g6, 0, none⟩) (l + 1) cap6)) g6 (l * 4) (.int .i64 3) (.int .i64 0) (.string ⟨#[]⟩) cv).setCell ⟨rb, 1, none⟩ (.slice (some ⟨og, 0, none⟩) m oc)) := by
  subst hul
  obtain ⟨hrb, _⟩ := shut_facts h.lt h.blk HO hB5 HG
  have hg6 := (HO6.lt g6 rfl).1
  have hB := h.lt
  refine shut_fin he h hm hd hk hB5 HG HA ?_ (ownsRow_setCell_below (set4_own (ownsRow_setCell_below HO6 (by show rb < B; exact h.lt) _) HO.1) (by show rb < B; exact h.lt) _) (fun q h1 h2 => by rw [heap_setCell_other _ _ _ _ (show q ≠ rb from h1), set4_other _ _ _ _ _ _ _ _ h2, heap_setCell_other _ _ _ _ (show q ≠ rb from h1)]) ?_ ?_ ?_ ?_
  · rw [heap_setCell_same _ _ _ _ _ _ ((set4_other _ _ _ _ _ _ _ _ (show rb ≠ g6 by omega)).trans (heap_setCell_same _ _ _ _ _ _ hrb))]
    rfl
  · rw [os_setCell, os_setCell, os_setCell, os_setCell, os_setCell, os_setCell]
  · rw [tape_setCell, tape_setCell, tape_setCell, tape_setCell, tape_setCell, tape_setCell]
  · rw [output_setCell, output_setCell, output_setCell, output_setCell, output_setCell, output_setCell]
  · rw [size_setCell, set4_size, size_setCell]
#print axioms shut_6
end Go.Proofs.YthhgphokbgpaiabDoor
