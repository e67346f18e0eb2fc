/- The reader's method open: a list more is open. -/
import Derived.Test.YthhgphokbgpaiabDoorRs
namespace Go.Proofs.YthhgphokbgpaiabDoor
open Go.RowKit

theorem open_fin {w w6 : World} {o1 o2 : Obj} {rb B m oc g6 cap6 : Nat} {oa : Option Addr} {vs0 : List Value} {cv : Value} {st0 : List (List Fm)} {cur : List Fm} {e : Ending} (he : e = .returned (.int .i64 0)) (hm : vs0.length = m)
    (h : Rd w rb B vs0 cv (.slice oa m oc) st0 cur) (HG : ((w.alloc o1).alloc o2).drew.grownBy w6 (Value.slice oa m oc).ownBlock) (HA : (Value.slice oa m oc).ownBlock = some g6 ∨ g6 = w.heap.size + 2)
    (HO6 : w6.ownsRow B 23 1 (.slice (some ⟨g6, 0, none⟩) (m + 1) cap6) (m + 1) (vs0 ++ [cv])) :
    RdOut w rb B (st0 ++ [cur]) [] e ((w6.setCell ⟨rb, 1, none⟩ (.slice (some ⟨g6, 0, none⟩) (m + 1) cap6)).setCell ⟨rb, 0, none⟩ (.slice none 0 0)) := by
  subst hm
  have hown := h.own
  have hB := h.lt
  have hb := size_of_block h.blk
  have hrb : w6.heap[rb]? = some (.cells #[cv, .slice oa vs0.length oc] 39 (0, 0)) := by
    rw [HG.block rb (by rw [size_drew, World.size_alloc, World.size_alloc]; omega) (fun e => by have := hown.lt rb e.symm; omega)]
    show ((w.alloc o1).alloc o2).heap[rb]? = _
    rw [Below.heap_alloc _ _ _ (by rw [World.size_alloc]; omega), Below.heap_alloc _ _ _ hb]
    exact h.blk
  have hfr : Fr (fun q => q = rb ∨ (Value.slice oa vs0.length oc).ownBlock = some q) w ((w6.setCell ⟨rb, 1, none⟩ (.slice (some ⟨g6, 0, none⟩) (vs0.length + 1) cap6)).setCell ⟨rb, 0, none⟩ (.slice none 0 0)) :=
    put_fr HG HA (by rw [os_setCell, os_setCell]) (by rw [tape_setCell, tape_setCell]) (by rw [output_setCell, output_setCell]) (by rw [size_setCell, size_setCell]) (fun q h1 _ => by rw [heap_setCell_other _ _ _ _ (show q ≠ rb from h1), heap_setCell_other _ _ _ _ (show q ≠ rb from h1)])
  refine ⟨he, hfr.mono (fun q hq => ?_), _, _, _, h.push (g := g6) ?_ hfr (ownsRow_setCell_below (ownsRow_setCell_below HO6 (by show rb < B; omega) _) (by show rb < B; omega) _) rfl (HA.imp id (fun x => by omega))⟩
  · rcases hq with hq | hq
    · exact Or.inl hq
    · exact Or.inr (hown.lt q hq).1
  · rw [heap_setCell_same _ _ _ _ _ _ (heap_setCell_same _ _ _ _ _ _ hrb)]; rfl

theorem open_facts {w w6 : World} {o1 o2 : Obj} {rb B m oc : Nat} {oa : Option Addr} {cv : Value} {vs0 : List Value} (hB : rb < B) (HB : w.heap[rb]? = some (.cells #[cv, .slice oa m oc] 39 (0, 0))) (HO : w.ownsRow B 23 1 (.slice oa m oc) m vs0)
    (HG : ((w.alloc o1).alloc o2).drew.grownBy w6 (Value.slice oa m oc).ownBlock) : w6.heap[rb]? = some (.cells #[cv, .slice oa m oc] 39 (0, 0)) ∧ w6.cell? ⟨rb, 0, none⟩ = some cv ∧ w6.cell? ⟨rb, 1, none⟩ = some (.slice oa m oc) ∧ w6.frozen? ⟨rb, 0, none⟩ = false ∧ w6.frozen? ⟨rb, 1, none⟩ = false := by
  have hb := size_of_block HB
  have hrb : w6.heap[rb]? = some (.cells #[cv, .slice oa m oc] 39 (0, 0)) := by
    rw [HG.block rb (by rw [size_drew, World.size_alloc, World.size_alloc]; omega) (fun e => by have := HO.lt rb e.symm; omega)]
    show ((w.alloc o1).alloc o2).heap[rb]? = _
    rw [Below.heap_alloc _ _ _ (by rw [World.size_alloc]; omega), Below.heap_alloc _ _ _ hb]
    exact HB
  exact ⟨hrb, (cell_of_block hrb 0).trans rfl, (cell_of_block hrb 1).trans rfl, frozen_of_block hrb 0, frozen_of_block hrb 1⟩

set_option maxRecDepth 20000 in
set_option maxHeartbeats 2000000 in
theorem ropen_any (rb B : Nat) (vs0 : List Value) (cv ov : Value) (st0 : List (List Fm)) (cur : List Fm) (k n p : Int) (ss : List UInt8) (w : World) (h : Rd w rb B vs0 cv ov st0 cur) (hd : st0.length < 30) :
    Calls Tryd.prog 26 #[.pointer (some ⟨rb, 0, none⟩), .agg #[.int .i64 k, .int .i64 n, .int .i64 p, .string ⟨⟨ss⟩⟩]] w (RdOut w rb B (st0 ++ [cur]) []) := by
  obtain ⟨ca, cc, rfl, _, _⟩ : ∃ a cap, cv = .slice a cur.length cap ∧ cur.length ≤ cap ∧ cap ≤ maxLen := by
    obtain ⟨_, h1, _⟩ := h.rows.last
    exact owns_form h1
  have hB := h.lt
  have hBs := h.base
  have hvm : vs0.length = st0.length := by have := h.rows.1; simp at this; exact this
  obtain ⟨oa, oc, rfl, _, _⟩ := owns_form h.own
  have hown := h.own
  rw [hvm] at hown h
  have HD := hide h; have HO := hide hown; have HB := hide h.blk; have HVM := hide hvm
  clear h hown hvm
  generalize hm : st0.length = m at *
  have hb := size_of_block HB.out
  obtain ⟨h0, h1⟩ := blk2 HB.out
  have z0 := frozen_of_block HB.out 0
  have z1 := frozen_of_block HB.out 1
  have h30 : ((m : Int) == 30) = false := by simp; omega
  obtain ⟨i, hi, hz0, hz1, hz2⟩ := info_parts Tryd.info23
  go_enter Tryd.func26, Tryd.ntmps26
  go_wp2_with fail
  go_region_law (refine step_append_lies _ (by rfl) (.tmp 15) (.tmp 20) 33 (by rfl) B 23 i (.slice none 0 0) 1 24 Tryd.underlying33 hi hz0 hz1 hz2 rfl (by decide) (.slice oa m oc) m vs0 (by rfl) (ownsRow_drew ((HO.out.alloc _).alloc _)) ⟨w.heap.size + 1, 0, none⟩ 1 1 [.slice ca cur.length cc] (by rfl) (by rfl) (World.news_of_block (new_block1 w _ _)) (fun u hu => by simp at hu; subst hu; rfl) (by omega) (by unfold maxLen; omega) (by omega) (by rw [size_drew, World.size_alloc, World.size_alloc]; omega) (w.heap.size + 2) (by rw [size_drew, World.size_alloc, World.size_alloc]) ?_; intro g6 cap6 w6 hown6 hgrow6 hat6 hlt6; obtain ⟨_, q0, q1, q2, q3⟩ := open_facts hB HB.out HO.out hgrow6; have HO6 := hide hown6; have HG6 := hide hgrow6; have HA6 := hide hat6; clear hown6 hgrow6 hat6 hlt6)
  all_goals
    go_wp2_with fail
    go_ret
    with_reducible refine open_fin ?_ HVM.out HD.out HG6.out HA6.out HO6.out
    rfl

set_option maxRecDepth 20000 in
theorem ropen_deep (rb B : Nat) (vs0 : List Value) (cv ov : Value) (st0 : List (List Fm)) (cur : List Fm) (k n p : Int) (ss : List UInt8) (w : World) (h : Rd w rb B vs0 cv ov st0 cur) (hd : st0.length = 30) :
    Calls Tryd.prog 26 #[.pointer (some ⟨rb, 0, none⟩), .agg #[.int .i64 k, .int .i64 n, .int .i64 p, .string ⟨⟨ss⟩⟩]] w fun e w' => e = .returned (.int .i64 5) ∧ Below w.heap.size w w' := by
  have hvm : vs0.length = st0.length := by have := h.rows.1; simp at this; exact this
  obtain ⟨oa, oc, rfl, _, _⟩ := owns_form h.own
  have HB := hide h.blk
  rw [hvm, hd] at HB
  have hb := size_of_block HB.out
  obtain ⟨h0, h1⟩ := blk2 HB.out
  clear hvm hd h
  go_enter Tryd.func26, Tryd.ntmps26
  go_wp2_with fail
  go_ret
  exact ⟨rfl, (Below.refl _ _).alloc (Nat.le_refl _) _⟩

set_option maxRecDepth 20000 in
theorem rshut_none (rb B : Nat) (cv ov : Value) (cur : List Fm) (k n p : Int) (ss : List UInt8) (w : World) (h : Rd w rb B [] cv ov [] cur) :
    Calls Tryd.prog 27 #[.pointer (some ⟨rb, 0, none⟩), .agg #[.int .i64 k, .int .i64 n, .int .i64 p, .string ⟨⟨ss⟩⟩]] w fun e w' => e = .returned (.int .i64 7) ∧ Below w.heap.size w w' := by
  obtain ⟨oa, oc, rfl, _, _⟩ := owns_form h.own
  have HB := hide h.blk
  have hb := size_of_block HB.out
  obtain ⟨h0, h1⟩ := blk2 HB.out
  clear h
  go_enter Tryd.func27, Tryd.ntmps27
  go_wp2_with fail
  go_ret
  exact ⟨rfl, (Below.refl _ _).alloc (Nat.le_refl _) _⟩
#print axioms ropen_any
end Go.Proofs.YthhgphokbgpaiabDoor
