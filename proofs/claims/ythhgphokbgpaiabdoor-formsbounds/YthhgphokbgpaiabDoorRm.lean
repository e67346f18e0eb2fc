/- The reader's methods name and number: one form more in the nearest row. -/
import Derived.Test.YthhgphokbgpaiabDoorRd
import Derived.Deep.RegionLaw
import Derived.Deep.AppendLies
import Derived.Deep.DeepCutAuto
namespace Go.Proofs.YthhgphokbgpaiabDoor
open Go.RowKit

theorem grow_facts {w w6 : World} {o1 o2 : Obj} {rb B l cc g6 cap6 : Nat} {ca : Option Addr} {ov x0 x1 x2 x3 : Value} {xs : List Value} (hB : rb < B) (HB : w.heap[rb]? = some (.cells #[.slice ca l cc, ov] 39 (0, 0))) (HO : w.ownsRow B 25 4 (.slice ca l cc) l xs)
    (hg : ((w.alloc o1).alloc o2).drew.grownBy w6 (Value.slice ca l cc).ownBlock) (ho : w6.ownsRow B 25 4 (.slice (some ⟨g6, 0, none⟩) (l + 1) cap6) (l + 1) (xs ++ [x0, x1, x2, x3])) :
    w6.cell? ⟨rb, 0, none⟩ = some (.slice ca l cc) ∧ w6.frozen? ⟨rb, 0, none⟩ = false ∧
    w6.cell? ⟨g6, l * 4, none⟩ = some x0 ∧ w6.cell? ⟨g6, l * 4 + 1, none⟩ = some x1 ∧ w6.cell? ⟨g6, l * 4 + 2, none⟩ = some x2 ∧ w6.cell? ⟨g6, l * 4 + 3, none⟩ = some x3 ∧
    w6.frozen? ⟨g6, l * 4, none⟩ = false ∧ w6.frozen? ⟨g6, l * 4 + 1, none⟩ = false ∧ w6.frozen? ⟨g6, l * 4 + 2, none⟩ = false ∧ w6.frozen? ⟨g6, l * 4 + 3, none⟩ = false ∧ rb ≠ g6 ∧ g6 ≠ rb ∧ w6.heap[rb]? = some (.cells #[.slice ca l cc, ov] 39 (0, 0)) := by
  have hb := size_of_block HB
  have hl := HO.1
  have hgb : B ≤ g6 := (ho.lt g6 rfl).1
  have hrb : w6.heap[rb]? = some (.cells #[.slice ca l cc, ov] 39 (0, 0)) := by
    rw [hg.block rb (by rw [size_drew, World.size_alloc, World.size_alloc]; omega) (fun e => by have := HO.lt rb e.symm; omega)]
    show ((w.alloc o1).alloc o2).heap[rb]? = _
    rw [Below.heap_alloc _ _ _ (by rw [World.size_alloc]; omega), Below.heap_alloc _ _ _ hb]
    exact HB
  have key : ∀ j x, j < 4 → [x0, x1, x2, x3][j]? = some x → w6.cell? ⟨g6, l * 4 + j, none⟩ = some x := fun j x hj hx => by
    rw [ho.cellAt (l * 4 + j) (by omega), List.getElem?_append_right (by omega), hl, Nat.add_sub_cancel_left]
    exact hx
  exact ⟨(cell_of_block hrb 0).trans rfl, frozen_of_block hrb 0, key 0 _ (by decide) rfl, key 1 _ (by decide) rfl, key 2 _ (by decide) rfl, key 3 _ (by decide) rfl, ho.frozenAt _, ho.frozenAt _, ho.frozenAt _, ho.frozenAt _, by omega, by omega, hrb⟩

/-- The four cells of the last element. -/
abbrev set4 (w : World) (g p : Nat) (y0 y1 y2 y3 : Value) : World := (((w.setCell ⟨g, p, none⟩ y0).setCell ⟨g, p + 1, none⟩ y1).setCell ⟨g, p + 2, none⟩ y2).setCell ⟨g, p + 3, none⟩ y3

theorem set4_other (w : World) (g p q : Nat) (y0 y1 y2 y3 : Value) (h : q ≠ g) : (set4 w g p y0 y1 y2 y3).heap[q]? = w.heap[q]? := by
  rw [heap_setCell_other _ _ _ _ (show q ≠ g from h), heap_setCell_other _ _ _ _ (show q ≠ g from h), heap_setCell_other _ _ _ _ (show q ≠ g from h), heap_setCell_other _ _ _ _ (show q ≠ g from h)]

theorem size_setCell (w : World) (p : Addr) (u : Value) : (w.setCell p u).heap.size = w.heap.size := by simp [World.setCell]

theorem set4_size (w : World) (g p : Nat) (y0 y1 y2 y3 : Value) : (set4 w g p y0 y1 y2 y3).heap.size = w.heap.size := by
  rw [size_setCell, size_setCell, size_setCell, size_setCell]

theorem os_setCell (w : World) (p : Addr) (u : Value) : (w.setCell p u).os = w.os := rfl
theorem tape_setCell (w : World) (p : Addr) (u : Value) : (w.setCell p u).tape = w.tape := rfl
theorem output_setCell (w : World) (p : Addr) (u : Value) : (w.setCell p u).output = w.output := rfl

theorem set4_own {w : World} {base l g cap : Nat} {x0 x1 x2 x3 y0 y1 y2 y3 : Value} {xs : List Value} (h : w.ownsRow base 25 4 (.slice (some ⟨g, 0, none⟩) (l + 1) cap) (l + 1) (xs ++ [x0, x1, x2, x3])) (hl : xs.length = l * 4) :
    (set4 w g (l * 4) y0 y1 y2 y3).ownsRow base 25 4 (.slice (some ⟨g, 0, none⟩) (l + 1) cap) (l + 1) (xs ++ [y0, y1, y2, y3]) := by
  have h1 := (((((h.stored (l * 4) y0).1.stored (l * 4 + 1) y1).1.stored (l * 4 + 2) y2).1.stored (l * 4 + 3) y3)).1
  have e : ((((xs ++ [x0, x1, x2, x3]).set (l * 4) y0).set (l * 4 + 1) y1).set (l * 4 + 2) y2).set (l * 4 + 3) y3 = xs ++ [y0, y1, y2, y3] := by
    rw [← hl]
    rw [List.set_append_right _ _ (by omega), List.set_append_right _ _ (by omega), List.set_append_right _ _ (by omega), List.set_append_right _ _ (by omega)]
    simp
  rw [e] at h1
  exact h1

/-- What both orders come to. -/
structure Put (w W : World) (rb B : Nat) (cv nv ov : Value) (l g : Nat) (xs ys : List Value) : Prop where
  blk : W.heap[rb]? = some (.cells #[nv, ov] 39 (0, 0))
  own : W.ownsRow B 25 4 nv (l + 1) (xs ++ ys)
  fr : Fr (fun q => q = rb ∨ cv.ownBlock = some q) w W
  at' : nv.ownBlock = some g ∧ (cv.ownBlock = some g ∨ w.heap.size ≤ g)

theorem put_fr {w w6 W : World} {o1 o2 : Obj} {rb g6 : Nat} {cv : Value} (HG : ((w.alloc o1).alloc o2).drew.grownBy w6 cv.ownBlock) (HA : cv.ownBlock = some g6 ∨ g6 = w.heap.size + 2) (hos : W.os = w6.os) (htape : W.tape = w6.tape) (hout : W.output = w6.output) (hs : W.heap.size = w6.heap.size)
    (hW : ∀ q, q ≠ rb → q ≠ g6 → W.heap[q]? = w6.heap[q]?) : Fr (fun q => q = rb ∨ cv.ownBlock = some q) w W := by
  have h1 : w.heap.size + 2 ≤ w6.heap.size := by have := HG.size; rw [size_drew, World.size_alloc, World.size_alloc] at this; exact this
  refine ⟨hos.trans HG.os, htape.trans HG.tape, hout.trans HG.output, by omega, fun q hq hm => ?_⟩
  have hne : q ≠ g6 := fun e => by
    subst e
    rcases HA with e | e
    · exact hm (Or.inr e)
    · omega
  rw [hW q (fun e => hm (Or.inl e)) hne, HG.block q (by rw [size_drew, World.size_alloc, World.size_alloc]; omega) (fun e => hm (Or.inr e.symm))]
  show ((w.alloc o1).alloc o2).heap[q]? = _
  rw [Below.heap_alloc _ _ _ (by rw [World.size_alloc]; omega), Below.heap_alloc _ _ _ hq]

theorem put_A {w w6 : World} {o1 o2 : Obj} {rb B l cc g6 cap6 : Nat} {ca : Option Addr} {ov x0 x1 x2 x3 y0 y1 y2 y3 : Value} {xs : List Value} (hB : rb < B) (HB : w.heap[rb]? = some (.cells #[.slice ca l cc, ov] 39 (0, 0))) (HO : w.ownsRow B 25 4 (.slice ca l cc) l xs)
    (HG : ((w.alloc o1).alloc o2).drew.grownBy w6 (Value.slice ca l cc).ownBlock) (HO6 : w6.ownsRow B 25 4 (.slice (some ⟨g6, 0, none⟩) (l + 1) cap6) (l + 1) (xs ++ [x0, x1, x2, x3])) (HA : (Value.slice ca l cc).ownBlock = some g6 ∨ g6 = w.heap.size + 2) :
    Put w ((set4 w6 g6 (l * 4) y0 y1 y2 y3).setCell ⟨rb, 0, none⟩ (.slice (some ⟨g6, 0, none⟩) (l + 1) cap6)) rb B (.slice ca l cc) (.slice (some ⟨g6, 0, none⟩) (l + 1) cap6) ov l g6 xs [y0, y1, y2, y3] := by
  obtain ⟨_, _, _, _, _, _, _, _, _, _, n1, n2, hrb⟩ := grow_facts hB HB HO HG HO6
  refine ⟨?_, ownsRow_setCell_below (set4_own HO6 HO.1) (by show rb < B; omega) _, put_fr HG HA (by rw [os_setCell, os_setCell, os_setCell, os_setCell, os_setCell]) (by rw [tape_setCell, tape_setCell, tape_setCell, tape_setCell, tape_setCell]) (by rw [output_setCell, output_setCell, output_setCell, output_setCell, output_setCell]) (by rw [size_setCell, set4_size]) (fun q h1 h2 => by rw [heap_setCell_other _ _ _ _ (show q ≠ rb from h1), set4_other _ _ _ _ _ _ _ _ h2]), rfl, HA.imp id (fun h => by omega)⟩
  rw [heap_setCell_same _ _ _ _ _ _ ((set4_other _ _ _ _ _ _ _ _ n1).trans hrb)]
  rfl

theorem put_B {w w6 : World} {o1 o2 : Obj} {rb B l cc g6 cap6 : Nat} {ca : Option Addr} {ov x0 x1 x2 x3 y0 y1 y2 y3 : Value} {xs : List Value} (hB : rb < B) (HB : w.heap[rb]? = some (.cells #[.slice ca l cc, ov] 39 (0, 0))) (HO : w.ownsRow B 25 4 (.slice ca l cc) l xs)
    (HG : ((w.alloc o1).alloc o2).drew.grownBy w6 (Value.slice ca l cc).ownBlock) (HO6 : w6.ownsRow B 25 4 (.slice (some ⟨g6, 0, none⟩) (l + 1) cap6) (l + 1) (xs ++ [x0, x1, x2, x3])) (HA : (Value.slice ca l cc).ownBlock = some g6 ∨ g6 = w.heap.size + 2) :
    Put w (set4 (w6.setCell ⟨rb, 0, none⟩ (.slice (some ⟨g6, 0, none⟩) (l + 1) cap6)) g6 (l * 4) y0 y1 y2 y3) rb B (.slice ca l cc) (.slice (some ⟨g6, 0, none⟩) (l + 1) cap6) ov l g6 xs [y0, y1, y2, y3] := by
  obtain ⟨_, _, _, _, _, _, _, _, _, _, n1, n2, hrb⟩ := grow_facts hB HB HO HG HO6
  refine ⟨?_, set4_own (ownsRow_setCell_below HO6 (by show rb < B; omega) _) HO.1, put_fr HG HA (by rw [os_setCell, os_setCell, os_setCell, os_setCell, os_setCell]) (by rw [tape_setCell, tape_setCell, tape_setCell, tape_setCell, tape_setCell]) (by rw [output_setCell, output_setCell, output_setCell, output_setCell, output_setCell]) (by rw [set4_size, size_setCell]) (fun q h1 h2 => by rw [set4_other _ _ _ _ _ _ _ _ h2, heap_setCell_other _ _ _ _ (show q ≠ rb from h1)]), rfl, HA.imp id (fun h => by omega)⟩
  rw [set4_other _ _ _ _ _ _ _ _ n1, heap_setCell_same _ _ _ _ _ _ hrb]
  rfl

theorem leaf_form {w : World} {D : Nat → Prop} {f : Nat} (k n : Int) (ss : List UInt8) (hf : 1 ≤ f) (hk : I64 k) (hn : I64 n) : FmD w D f ⟨k, n, ss, []⟩ (.agg #[.int .i64 k, .int .i64 n, .string ⟨⟨ss⟩⟩, .slice none 0 0]) := by
  match f, hf with
  | f + 1, _ => exact ⟨none, 0, rfl, hk, hn, RowAt.nil (by unfold maxLen; omega)⟩

/-- What a method answers that lays one form more. -/
def PutOut (w : World) (rb B : Nat) (vs0 : List Value) (ov : Value) (st0 : List (List Fm)) (cur : List Fm) (e : Ending) (w' : World) : Prop :=
  e = .returned (.int .i64 0) ∧ Fr (fun q => q = rb ∨ B ≤ q) w w' ∧ ∃ cv', Rd w' rb B vs0 cv' ov st0 cur

theorem put_out {w W : World} {rb B g : Nat} {vs0 : List Value} {cv nv ov : Value} {st0 : List (List Fm)} {cur : List Fm} {xs : List Value} {k n : Int} {ss : List UInt8} {e : Ending} (he : e = .returned (.int .i64 0)) (h : Rd w rb B vs0 cv ov st0 cur) (hd : st0.length ≤ 30)
    (hk : KidsAt w (Free w B ov (vs0 ++ [cv])) (31 - st0.length) cur xs) (h1 : I64 k) (h2 : I64 n) (hp : Put w W rb B cv nv ov cur.length g xs [.int .i64 k, .int .i64 n, .string ⟨⟨ss⟩⟩, .slice none 0 0]) :
    PutOut w rb B vs0 ov st0 (cur ++ [⟨k, n, ss, []⟩]) e W := by
  refine ⟨he, hp.fr.mono (fun q hq => ?_), nv, h.put hk hp.blk hp.fr hp.own hp.at'.1 hp.at'.2 (leaf_form _ _ _ (by omega) h1 h2)⟩
  rcases hq with hq | hq
  · exact Or.inl hq
  · exact Or.inr (h.rows.lt cv (by simp) q hq).1

set_option maxHeartbeats 1000000 in
theorem rname_any (rb B : Nat) (vs0 : List Value) (cv ov : Value) (st0 : List (List Fm)) (cur : List Fm) (k n p : Int) (ss : List UInt8) (w : World) (h : Rd w rb B vs0 cv ov st0 cur) (hd : st0.length ≤ 30) (hl : cur.length ≤ 5000) :
    Calls Tryd.prog 28 #[.pointer (some ⟨rb, 0, none⟩), .agg #[.int .i64 k, .int .i64 n, .int .i64 p, .string ⟨⟨ss⟩⟩]] w (PutOut w rb B vs0 ov st0 (cur ++ [⟨1, 0, ss, []⟩])) := by
  obtain ⟨xs, ho, hk⟩ := h.rows.last
  obtain ⟨ca, cc, rfl, _, _⟩ := owns_form ho
  have HD := hide h
  have hB := h.lt
  have hBs := h.base
  have HK := hide hk
  have HO := hide ho
  have HB := hide h.blk
  clear ho hk h
  have hb := size_of_block HB.out
  obtain ⟨h0, h1⟩ := blk2 HB.out
  have z0 := frozen_of_block HB.out 0
  have HL := hide hl
  generalize hcl : cur.length = l at *
  have HC := hide hcl
  clear hcl
  obtain ⟨i, hi, hz0, hz1, hz2⟩ := info_parts Tryd.info25
  go_enter Tryd.func28, Tryd.ntmps28
  go_wp2_with fail
  have i1 : (0 : Int) ≤ (l : Int) := by omega
  have i2 : (l : Int) < (l : Int) + 1 := by omega
  go_region_law (refine step_append_lies _ (by rfl) (.tmp 8) (.tmp 13) 23 (by rfl) B 25 i (.agg #[.int .i64 0, .int .i64 0, .string ⟨#[]⟩, .slice none 0 0]) 4 56 Tryd.underlying23 hi hz0 hz1 hz2 rfl (by decide) (.slice ca l cc) l xs (by rfl) (ownsRow_drew ((HO.out.alloc _).alloc _)) ⟨w.heap.size + 1, 0, none⟩ 1 1 [.int .i64 0, .int .i64 0, .string ⟨#[]⟩, .slice none 0 0] (by rfl) (by rfl) (World.news_of_block (new_block1 w _ _)) (fun u hu => by simp at hu; rcases hu with rfl | rfl | rfl | rfl <;> rfl) (by omega) (by unfold maxLen; omega) (by omega) (by rw [size_drew, World.size_alloc, World.size_alloc]; omega) (w.heap.size + 2) (by rw [size_drew, World.size_alloc, World.size_alloc]) ?_; intro g6 cap6 w6 hown6 hgrow6 hat6 hlt6; obtain ⟨q0, q1, e0, e1, e2, e3, u0, u1, u2, u3, n1, n2, _⟩ := grow_facts hB HB.out HO.out hgrow6 hown6; have HO6 := hide hown6; have HG6 := hide hgrow6; have HA6 := hide hat6; clear hown6 hgrow6 hat6 hlt6)
  all_goals
    clear q0 q1 e0 e1 e2 e3 u0 u1 u2 u3
    go_wp2_with fail
    go_ret
    have hc := HC.out
    subst hc
    first
      | with_reducible refine put_out ?_ HD.out hd HK.out ?_ ?_ (put_A hB HB.out HO.out HG6.out HO6.out HA6.out)
      | with_reducible refine put_out ?_ HD.out hd HK.out ?_ ?_ (put_B hB HB.out HO.out HG6.out HO6.out HA6.out)
    · rfl
    · unfold I64; omega
    · unfold I64; omega

#print axioms rname_any
end Go.Proofs.YthhgphokbgpaiabDoor
