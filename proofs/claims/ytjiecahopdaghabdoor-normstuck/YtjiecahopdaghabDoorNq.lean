/- read: a part as a term again: what is known while the kids are read. -/
import Derived.Test.YtjiecahopdaghabDoorNo
import Derived.Test.YtjiecahopdaghabDoorNp
import Derived.Test.YtjiecahopdaghabDoorSh
namespace Go.Proofs.YtjiecahopdaghabDoor
open Go.RowKit

/-- What the reader may write. -/
def MutR (mb rq : Nat) (A : Nat → Nat) (n : Nat) (q : Nat) : Prop := Mut mb A n q ∨ q = rq

/-- From one state to a later one, the reader's box written, too. -/
structure Stq (w : World) (X : Nat → Prop) (B mb rq : Nat) (A : Nat → Nat) (s : St) (w' : World) (A' : Nat → Nat) (s' : St) : Prop where
  inv : Inv w' X B mb A' s'
  size : s.size ≤ s'.size
  same : ∀ i, i < s.size → A' i = A i
  fr : Fr (MutR mb rq A s.size) w w'
  new : ∀ i, s.size ≤ i → i < s'.size → w.heap.size ≤ A' i

theorem Stp.toq {w w' : World} {X : Nat → Prop} {B mb : Nat} (rq : Nat) {A A' : Nat → Nat} {s s' : St} (h : Stp w X B mb A s w' A' s') : Stq w X B mb rq A s w' A' s' := ⟨h.inv, h.size, h.same, h.fr.mono (fun _ h => Or.inl h), h.new⟩
theorem Stq.keeps {w w' : World} {X : Nat → Prop} {B mb rq : Nat} {A A' : Nat → Nat} {s s' : St} (i : Inv w X B mb A s) (hx : X rq) (h : Stq w X B mb rq A s w' A' s') : Keeps w X B mb A s.size w' X A' s'.size :=
  ⟨h.size, h.same, h.fr.mono (fun q h => by rcases h with h | rfl; exact Or.inl h; exact Or.inr hx), h.new, fun _ _ h => h, i.los⟩

/-- What a read term's blocks are: new, and nobody's. -/
def Own (w w' : World) (mb : Nat) (A : Nat → Nat) (n : Nat) (q : Nat) : Prop := w.heap.size ≤ q ∧ q < w'.heap.size ∧ ¬ Mut mb A n q

/-- What read answers. -/
def ReadOut (w : World) (X : Nat → Prop) (B mb rq : Nat) (A : Nat → Nat) (s : St) (f : Nat) (r : Red) (x : Ending) (w' : World) : Prop :=
  ∃ A' p0 p1 pa pl pc, x = .returned (.agg #[.int .i64 p0, .int .i64 p1, .slice pa pl pc]) ∧ Stq w X B mb rq A s w' A' r.s ∧ w'.heap[rq]? = some (.cells #[pt mb, .int .i64 r.nodes] 64 (0, 0)) ∧
    (r.s.err = 0 → TmD w' (Own w w' mb A' r.s.size) f r.t (.agg #[.int .i64 p0, .int .i64 p1, .slice pa pl pc]))

/-- While the kids are read: r0 the answer's box, r0' the term's own one, kb its row. -/
structure RdS (w : World) (X : Nat → Prop) (B mb rq : Nat) (A : Nat → Nat) (s : St) (wr : World) (A' : Nat → Nat) (s' : St) (nodes' : Int) (r0 ob kb f L : Nat) (o n : Int) (ts : List Tr) : Prop where
  inv : Inv wr (fun q => (X q ∨ q = r0) ∨ q = ob ∨ q = kb) B mb A' s'
  size : s.size ≤ s'.size
  same : ∀ i, i < s.size → A' i = A i
  fr : Fr (MutR mb rq A s.size) w wr
  new : ∀ i, s.size ≤ i → i < s'.size → w.heap.size ≤ A' i
  box : wr.heap[r0]? = some (.cells #[.int .i64 0, .int .i64 0, .slice none 0 0] 26 (0, 0))
  out : wr.heap[ob]? = some (.cells #[.int .i64 o, .int .i64 n, .slice (some ⟨kb, 0, none⟩) L L] 26 (0, 0))
  rd : wr.heap[rq]? = some (.cells #[pt mb, .int .i64 nodes'] 64 (0, 0))
  row : ∃ cs : Array Value, wr.heap[kb]? = some (.cells cs 26 (0, 0)) ∧ cs.size = L * 3 ∧ (s'.err = 0 → ∀ (j : Nat) (h : j < ts.length), ∃ x0 x1 x2, cs[j * 3]? = some x0 ∧ cs[j * 3 + 1]? = some x1 ∧ cs[j * 3 + 2]? = some x2 ∧ TmD wr (fun q => Own w wr mb A' s'.size q ∧ q ≠ r0 ∧ q ≠ ob ∧ q ≠ kb) f ts[j] (.agg #[x0, x1, x2]))
  nw : w.heap.size ≤ r0 ∧ w.heap.size ≤ ob ∧ w.heap.size ≤ kb ∧ r0 ≠ ob ∧ r0 ≠ kb ∧ ob ≠ kb
  xlt : ∀ q, X q → q < w.heap.size
  hx : X rq

theorem RdS.keeps {w wr : World} {X : Nat → Prop} {B mb rq : Nat} {A A' : Nat → Nat} {s s' : St} {nodes' o n : Int} {r0 ob kb f L : Nat} {ts : List Tr} (i : Inv w X B mb A s) (h : RdS w X B mb rq A s wr A' s' nodes' r0 ob kb f L o n ts) : Keeps w X B mb A s.size wr (fun q => (X q ∨ q = r0) ∨ q = ob ∨ q = kb) A' s'.size :=
  ⟨h.size, h.same, h.fr.mono (fun q h' => by rcases h' with h' | rfl; exact Or.inl h'; exact Or.inr h.hx), h.new, fun q hq hx => by
    have := h.nw
    rcases hx with (hx | rfl) | rfl | rfl
    · exact hx
    · omega
    · omega
    · omega, i.los⟩

theorem RdS.nm {w wr : World} {X : Nat → Prop} {B mb rq : Nat} {A A' : Nat → Nat} {s s' : St} {nodes' o n : Int} {r0 ob kb f L : Nat} {ts : List Tr} (h : RdS w X B mb rq A s wr A' s' nodes' r0 ob kb f L o n ts) {q : Nat} (hq : (X q ∨ q = r0) ∨ q = ob ∨ q = kb) : ¬ Mut mb A' s'.size q := by
  have hxr := h.inv.xs q hq
  rintro (e | ⟨j, hj, e⟩)
  · exact hxr.2.2.1 e
  · exact hxr.2.2.2 j hj e

/-- One kid more. -/
theorem RdS.step {w wr wd w5 : World} {X : Nat → Prop} {B mb rq : Nat} {A A' A5 : Nat → Nat} {s s' : St} {nodes' o n : Int} {r0 ob kb f L k : Nat} {ts : List Tr} {r : Red} {p0 p1 p2 : Value} (h : RdS w X B mb rq A s wr A' s' nodes' r0 ob kb f L o n ts) (hl : ts.length = k) (hk : k < L) (he0 : s'.err = 0)
    (hwd : wd.heap = wr.heap) (hos : wd.os = wr.os ∧ wd.tape = wr.tape ∧ wd.output = wr.output) (hs : Stq wd (fun q => (X q ∨ q = r0) ∨ q = ob ∨ q = kb) B mb rq A' s' w5 A5 r.s) (hrd : w5.heap[rq]? = some (.cells #[pt mb, .int .i64 r.nodes] 64 (0, 0)))
    (ht : r.s.err = 0 → TmD w5 (Own wd w5 mb A5 r.s.size) f r.t (.agg #[p0, p1, p2])) :
    RdS w X B mb rq A s (((w5.setCell ⟨kb, k * 3, none⟩ p0).setCell ⟨kb, k * 3 + 1, none⟩ p1).setCell ⟨kb, k * 3 + 2, none⟩ p2) A5 r.s r.nodes r0 ob kb f L o n (ts ++ [r.t]) := by
  have hsz : wd.heap.size = wr.heap.size := by rw [hwd]
  have hrql := h.inv.xs rq (Or.inl (Or.inl h.hx))
  have hxr0 := h.inv.xs r0 (Or.inl (Or.inr rfl))
  have hxo := h.inv.xs ob (Or.inr (Or.inl rfl))
  have hxk := h.inv.xs kb (Or.inr (Or.inr rfl))
  have hnw := h.nw
  have hrqw := h.xlt rq h.hx
  have nb : ∀ q, ((X q ∨ q = r0) ∨ q = ob ∨ q = kb) → q ≠ rq → w5.heap[q]? = wr.heap[q]? := fun q hq hne => by
    rw [hs.fr.block q (by rw [hsz]; exact (h.inv.xs q hq).2.1) (by rintro (e | e); exact h.nm hq e; exact hne e), hwd]
  obtain ⟨cs, h1, h2, h3⟩ := h.row
  have k5 := (nb kb (Or.inr (Or.inr rfl)) (by omega)).trans h1
  have b1 := heap_setCell_same _ _ (k * 3) _ _ p0 k5
  have b2 := heap_setCell_same _ _ (k * 3 + 1) _ _ p1 b1
  have b3 := heap_setCell_same _ _ (k * 3 + 2) _ _ p2 b2
  have oth : ∀ q, q ≠ kb → (((w5.setCell ⟨kb, k * 3, none⟩ p0).setCell ⟨kb, k * 3 + 1, none⟩ p1).setCell ⟨kb, k * 3 + 2, none⟩ p2).heap[q]? = w5.heap[q]? := fun q hq => by
    rw [heap_setCell_other _ _ _ _ hq, heap_setCell_other _ _ _ _ hq, heap_setCell_other _ _ _ _ hq]
  have hsz2 : (((w5.setCell ⟨kb, k * 3, none⟩ p0).setCell ⟨kb, k * 3 + 1, none⟩ p1).setCell ⟨kb, k * 3 + 2, none⟩ p2).heap.size = w5.heap.size := by simp [World.setCell]
  have hf : Fr (fun q => q = kb) w5 (((w5.setCell ⟨kb, k * 3, none⟩ p0).setCell ⟨kb, k * 3 + 1, none⟩ p1).setCell ⟨kb, k * 3 + 2, none⟩ p2) := ((fr_set w5 kb _ p0).trans (fr_set _ kb _ p1)).trans (fr_set _ kb _ p2)
  obtain ⟨_, hi⟩ := hs.inv.poke (hf.mono (fun q e => Or.inr (Or.inr e)))
  generalize (((w5.setCell ⟨kb, k * 3, none⟩ p0).setCell ⟨kb, k * 3 + 1, none⟩ p1).setCell ⟨kb, k * 3 + 2, none⟩ p2) = w6 at *
  have hws := h.fr.size
  have hss := hs.fr.size
  have mono : ∀ q, q < wr.heap.size → ¬ Mut mb A' s'.size q → ¬ Mut mb A5 r.s.size q := fun q hq hm => by
    rintro (e | ⟨j, hj, e⟩)
    · exact hm (Or.inl e)
    · by_cases hn : j < s'.size
      · exact hm (Or.inr ⟨j, hn, by rw [← e, hs.same j hn]⟩)
      · have := hs.new j (by omega) hj
        omega
  refine ⟨hi, Nat.le_trans h.size hs.size, fun j hj => (hs.same j (Nat.lt_of_lt_of_le hj h.size)).trans (h.same j hj), ?_, fun j h1 h2 => ?_, ?_, ?_, ?_, ⟨_, b3, by simp [h2], fun he j hj => ?_⟩, h.nw, h.xlt, h.hx⟩
  · refine ⟨hf.os.trans (hs.fr.os.trans (hos.1.trans h.fr.os)), hf.tape.trans (hs.fr.tape.trans (hos.2.1.trans h.fr.tape)), hf.output.trans (hs.fr.output.trans (hos.2.2.trans h.fr.output)), by omega, fun q hq hm => ?_⟩
    rw [oth q (by omega), hs.fr.block q (by omega) ?_, hwd]
    · exact h.fr.block q hq hm
    · rintro ((e | ⟨j, hj, e⟩) | e)
      · exact hm (Or.inl (Or.inl e))
      · by_cases hn : j < s.size
        · exact hm (Or.inl (Or.inr ⟨j, hn, by rw [← e, h.same j hn]⟩))
        · have := h.new j (by omega) hj; omega
      · exact hm (Or.inr e)
  · by_cases hj : j < s'.size
    · rw [hs.same j hj]; exact h.new j h1 hj
    · have := hs.new j (by omega) h2; omega
  · rw [oth r0 (by omega), nb r0 (Or.inl (Or.inr rfl)) (by omega)]; exact h.box
  · rw [oth ob (by omega), nb ob (Or.inr (Or.inl rfl)) (by omega)]; exact h.out
  · rw [oth rq (by omega)]; exact hrd
  · by_cases hlt : j < ts.length
    · obtain ⟨x0, x1, x2, e0, e1, e2, hx⟩ := h3 he0 j hlt
      refine ⟨x0, x1, x2, ?_, ?_, ?_, ?_⟩
      · rw [Array.getElem?_setIfInBounds_ne (by omega), Array.getElem?_setIfInBounds_ne (by omega), Array.getElem?_setIfInBounds_ne (by omega)]; exact e0
      · rw [Array.getElem?_setIfInBounds_ne (by omega), Array.getElem?_setIfInBounds_ne (by omega), Array.getElem?_setIfInBounds_ne (by omega)]; exact e1
      · rw [Array.getElem?_setIfInBounds_ne (by omega), Array.getElem?_setIfInBounds_ne (by omega), Array.getElem?_setIfInBounds_ne (by omega)]; exact e2
      · rw [List.getElem_append_left hlt]
        refine hx.keep (fun q hq => ?_) (fun q hq => ?_) f _ _
        · rw [oth q hq.2.2.2, hs.fr.block q (by have := hq.1.2.1; omega) (by rintro (e | e); exact hq.1.2.2 e; have := hq.1.1; omega), hwd]
        · exact ⟨⟨hq.1.1, by have := hq.1.2.1; omega, mono q hq.1.2.1 hq.1.2.2⟩, hq.2⟩
    · have hj' : j = k := by simp at hj; omega
      subst hj'
      refine ⟨p0, p1, p2, ?_, ?_, ?_, ?_⟩
      · rw [Array.getElem?_setIfInBounds_ne (by omega), Array.getElem?_setIfInBounds_ne (by omega), Array.getElem?_setIfInBounds_self_of_lt (by omega)]
      · rw [Array.getElem?_setIfInBounds_ne (by omega), Array.getElem?_setIfInBounds_self_of_lt (by simp; omega)]
      · rw [Array.getElem?_setIfInBounds_self_of_lt (by simp; omega)]
      · rw [List.getElem_append_right (by omega)]
        simp only [hl, Nat.sub_self, List.getElem_cons_zero]
        refine (ht he).keep (fun q hq => ?_) (fun q hq => ?_) f _ _
        · exact oth q (by have := hq.1; omega)
        · have h1 := hq.1; have h2 := hq.2.1
          exact ⟨⟨by omega, by omega, hq.2.2⟩, by omega, by omega, by omega⟩

/-- All kids are read. -/
theorem RdS.fin {w wr w7 : World} {X : Nat → Prop} {B mb rq : Nat} {A A' : Nat → Nat} {s s' : St} {nodes' o n : Int} {r0 ob kb f L : Nat} {ts : List Tr} (h : RdS w X B mb rq A s wr A' s' nodes' r0 ob kb f L o n ts) (hl : s'.err = 0 → ts.length = L) (hL : L ≤ 100000000) (ho : I64 o) (hn : I64 n)
    (hf : Fr (fun q => q = r0) wr w7) : ReadOut w X B mb rq A s (f + 1) ⟨⟨o, n, ts⟩, nodes', s'⟩ (.returned (.agg #[.int .i64 o, .int .i64 n, .slice (some ⟨kb, 0, none⟩) L L])) w7 := by
  have hnw := h.nw
  obtain ⟨_, hi⟩ := h.inv.poke (hf.mono (fun q e => Or.inl (Or.inr e)))
  obtain ⟨_, hi2⟩ := hi.wide (Y := X) (Below.refl _ w7) (fun q hq => Or.inl (Or.inl (Or.inl hq)))
  have hrqw := h.xlt rq h.hx
  have hws := h.fr.size
  have hfs := hf.size
  have hrql := h.inv.xs rq (Or.inl (Or.inl h.hx))
  have hxk := h.inv.xs kb (Or.inr (Or.inr rfl))
  refine ⟨A', _, _, _, _, _, rfl, ⟨hi2, h.size, h.same, ?_, h.new⟩, (hf.block rq hrql.2.1 (by omega)).trans h.rd, fun he => ?_⟩
  · refine ⟨hf.os.trans h.fr.os, hf.tape.trans h.fr.tape, hf.output.trans h.fr.output, by omega, fun q hq hm => ?_⟩
    rw [hf.block q (by omega) (by omega)]
    exact h.fr.block q hq hm
  · obtain ⟨cs, h1, h2, h3⟩ := h.row
    have hl' := hl he
    subst hl'
    refine ⟨some ⟨kb, 0, none⟩, ts.length, rfl, ho, hn, row_blk' ((hf.block kb hxk.2.1 (by omega)).trans h1) ⟨by omega, by omega, h.nm (Or.inr (Or.inr rfl))⟩ (show ts.length ≤ maxLen by unfold maxLen; omega) (fun i hi => ?_)⟩
    obtain ⟨x0, x1, x2, e0, e1, e2, hx⟩ := h3 he i hi
    refine ⟨x0, x1, x2, e0, e1, e2, hx.keep (fun q hq => ?_) (fun q hq => ?_) f _ _⟩
    · exact hf.block q hq.1.2.1 hq.2.1
    · exact ⟨hq.1.1, by have := hq.1.2.1; omega, hq.1.2.2⟩
#print axioms RdS.fin
end Go.Proofs.YtjiecahopdaghabDoor
