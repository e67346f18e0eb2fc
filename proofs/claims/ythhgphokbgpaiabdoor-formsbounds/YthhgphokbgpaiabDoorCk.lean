/- forms.Check: what it answers. -/
import Derived.Test.YthhgphokbgpaiabDoorCp
namespace Go.Proofs.YthhgphokbgpaiabDoor
open Go.RowKit

/-- A form and all below it. -/
def Fm.pre : Fm → List Fm
  | ⟨k, n, s, ks⟩ => ⟨k, n, s, ks⟩ :: (ks.map Fm.pre).flatten

theorem Fm.pre_eq (t : Fm) : t.pre = t :: (t.l.map Fm.pre).flatten := by cases t; rw [Fm.pre]

/-- No name is longer than memory bears. -/
def Short (t : Fm) : Prop := ∀ x ∈ t.pre, x.s.length ≤ 140737488355328

theorem Short.self {t : Fm} (h : Short t) : t.s.length ≤ 140737488355328 := h t (by rw [Fm.pre_eq]; simp)
theorem Short.kid {t k : Fm} (h : Short t) (hk : k ∈ t.l) : Short k := fun x hx => h x (by
  rw [Fm.pre_eq]
  exact List.mem_cons_of_mem _ (List.mem_flatten.2 ⟨k.pre, List.mem_map_of_mem hk, hx⟩))

/-- Rows of forms lie in values, below B. -/
def RowsV (w : World) (B F : Nat) (vs : List Value) (st : List (List Fm)) : Prop :=
  vs.length = st.length ∧ ∀ (i : Nat) (h' : i < vs.length) (h : i < st.length), ∃ a cap, vs[i] = .slice a st[i].length cap ∧ RowAt w (fun k => k < B) (FmAt w B F) st[i] a cap

theorem RowsV.keep {w w' : World} {B F : Nat} {vs : List Value} {st : List (List Fm)} (h : RowsV w B F vs st) (hb : Below B w w') : RowsV w' B F vs st := by
  refine ⟨h.1, fun i h1 h2 => ?_⟩
  obtain ⟨a, cap, h3, h4⟩ := h.2 i h1 h2
  exact ⟨a, cap, h3, h4.imp (fun k hk => hb.block k hk) (fun _ hk => hk) (fun t v ht => FmAt.below ht hb (Nat.le_refl _) (Nat.le_refl _))⟩

theorem RowsV.front {w : World} {B F : Nat} {vs : List Value} {v : Value} {st : List (List Fm)} {c : List Fm} (h : RowsV w B F (vs ++ [v]) (st ++ [c])) : RowsV w B F vs st := by
  have hl : vs.length = st.length := by have := h.1; simp at this; exact this
  refine ⟨hl, fun i h1 h2 => ?_⟩
  have := h.2 i (by simp; omega) (by simp; omega)
  rwa [List.getElem_append_left h1, List.getElem_append_left h2] at this

theorem RowsV.last {w : World} {B F : Nat} {vs : List Value} {v : Value} {st : List (List Fm)} {c : List Fm} (h : RowsV w B F (vs ++ [v]) (st ++ [c])) : ∃ a cap, v = .slice a c.length cap ∧ RowAt w (fun k => k < B) (FmAt w B F) c a cap := by
  have hl : vs.length = st.length := by have := h.1; simp at this; exact this
  have := h.2 st.length (by simp; omega) (by simp)
  rw [List.getElem_append_right (by omega), List.getElem_append_right (by omega)] at this
  simpa [hl] using this

theorem RowsV.snoc {w : World} {B F : Nat} {vs : List Value} {v : Value} {st : List (List Fm)} {c : List Fm} {a : Option Addr} {cap : Nat} (h : RowsV w B F vs st) (h1 : v = .slice a c.length cap) (h2 : RowAt w (fun k => k < B) (FmAt w B F) c a cap) : RowsV w B F (vs ++ [v]) (st ++ [c]) := by
  have hl := h.1
  refine ⟨by simp [hl], fun i h3 h4 => ?_⟩
  rcases Nat.lt_or_ge i st.length with hlt | hge
  · rw [List.getElem_append_left (by omega), List.getElem_append_left hlt]
    exact h.2 i (by omega) hlt
  · have he : i = st.length := by simp at h4; omega
    subst he
    rw [List.getElem_append_right (by omega), List.getElem_append_right (by omega)]
    simp only [hl, Nat.sub_self, List.getElem_cons_zero]
    exact ⟨a, cap, h1, h2⟩

/-- What Check holds, from round to round: the rows that are open, the nearest one ahead. -/
def CkAt (W wr : World) (B F : Nat) (rv : Value) (E : Nat) (up : List (List Fm)) : Prop :=
  (∃ vs, wr.ownsRow B 23 1 rv up.length vs ∧ RowsV wr B F vs up.reverse) ∧ Below B W wr ∧ B ≤ wr.heap.size ∧ chkS up = E ∧ up.length ≤ 31 ∧ ∀ r ∈ up, ∀ t ∈ r, Short t

theorem CkAt.later {W wr w' : World} {B F : Nat} {rv : Value} {E : Nat} {up : List (List Fm)} (h : CkAt W wr B F rv E up) (hb : Below wr.heap.size wr w') : CkAt W w' B F rv E up := by
  obtain ⟨⟨vs, h1, h2⟩, h3, h4, h5, h6, h7⟩ := h
  exact ⟨⟨vs, owns_same h1 (fun g hg => hb.block g (h1.lt g hg).2), h2.keep (hb.mono h4)⟩, h3.trans (hb.mono h4), Nat.le_trans h4 hb.size, h5, h6, h7⟩

theorem CkAt.turn {W wr : World} {B F : Nat} {rv : Value} {E : Nat} {r : List Fm} {up : List (List Fm)} (k : Nat) (h : CkAt W wr B F rv E (r :: up)) (h2 : chkS (r.drop k :: up) = E) : chkS (r.drop k :: up) = chkS (r :: up) := h2.trans h.2.2.2.1.symm

/-- The nearest row, and what stands in memory. -/
theorem CkAt.see {W wr : World} {B F : Nat} {rv : Value} {E : Nat} {r : List Fm} {up : List (List Fm)} (h : CkAt W wr B F rv E (r :: up)) :
    ∃ og oc vs0 ra rc, rv = .slice (some ⟨og, 0, none⟩) (up.length + 1) oc ∧ up.length + 1 ≤ oc ∧ B ≤ og ∧ og < wr.heap.size ∧ vs0.length = up.length ∧ wr.ownsRow B 23 1 rv (up.length + 1) (vs0 ++ [.slice ra r.length rc]) ∧ wr.cell? ⟨og, up.length, none⟩ = some (.slice ra r.length rc) ∧ r.length ≤ rc ∧ rc ≤ maxLen ∧
      RowsV wr B F (vs0 ++ [.slice ra r.length rc]) (up.reverse ++ [r]) := by
  obtain ⟨⟨vs, h1, h2⟩, _⟩ := h
  rw [List.reverse_cons] at h2
  rw [List.length_cons] at h1
  have hl : vs.length = up.length + 1 := by have := h2.1; simp at this; exact this
  obtain ⟨vs0, v, rfl⟩ := snoc_of hl
  obtain ⟨ra, rc, rfl, hr⟩ := h2.last
  obtain ⟨og, oc, rfl, hb, hs⟩ := h1.form (by omega)
  obtain ⟨_, _, he, hc, _⟩ := owns_form h1
  simp only [Value.slice.injEq, true_and] at he
  obtain ⟨-, rfl⟩ := he
  have hl0 : vs0.length = up.length := by simpa using hl
  exact ⟨og, oc, vs0, ra, rc, rfl, hc, hb, hs, hl0, h1, cut_own h1 hl0 rfl, hr.1, hr.2.1, h2⟩

/-- The nearest row is through. -/
theorem CkAt.pop {W wr : World} {B F og oc : Nat} {E : Nat} {r : List Fm} {up : List (List Fm)} (h : CkAt W wr B F (.slice (some ⟨og, 0, none⟩) (up.length + 1) oc) E (r :: up)) (he : chkS up = E) :
    CkAt W wr B F (.slice (some ⟨og, 0, none⟩) up.length oc) E up := by
  obtain ⟨_, _, vs0, ra, rc, _, _, _, _, h2, h3, _, _, _, h4⟩ := h.see
  obtain ⟨_, h5, h6, _, h7, h8⟩ := h
  exact ⟨⟨vs0, owns_cut h3 up.length (by omega) (by omega) (by simp), h4.front⟩, h5, h6, he, by rw [List.length_cons] at h7; omega, fun x hx => h8 x (by simp [hx])⟩

/-- A list among the forms of the nearest row: what is left of it, and the list. -/
theorem CkAt.push {W wr w5 w6 : World} {B F og oc k g6 cap6 : Nat} {E : Nat} {r : List Fm} {up : List (List Fm)} {vs0 : List Value} {ra la : Option Addr} {rc lc : Nat} {t : Fm} {da : Option Addr} {dl dc : Nat} {o : Obj} (hdl0 : dl = r.length - (k + 1)) (hdc : dc = rc - (k + 1)) (h : CkAt W wr B F (.slice (some ⟨og, 0, none⟩) (up.length + 1) oc) E (r :: up))
    (hk : k < r.length) (ht : r[k] = t) (hu : up.length ≤ 29) (hE : chkS (t.l :: r.drop (k + 1) :: up) = E) (hvs : vs0.length = up.length)
    (hR : RowsV wr B F (vs0 ++ [.slice ra r.length rc]) (up.reverse ++ [r])) (h5 : Below wr.heap.size wr w5)
    (hda : ∀ b off, ra = some ⟨b, off, none⟩ → r.drop (k + 1) ≠ [] → da = some ⟨b, off + (k + 1) * 4, none⟩)
    (hL : RowAt wr (fun q => q < B) (FmAt wr B F) t.l la lc)
    (HG : ((w5.setCell ⟨og, up.length, none⟩ (.slice da dl dc)).alloc o).grownBy w6 (some og))
    (HO6 : w6.ownsRow B 23 1 (.slice (some ⟨g6, 0, none⟩) (up.length + 1 + 1) cap6) (up.length + 1 + 1) ((vs0 ++ [.slice da dl dc]) ++ [.slice la t.l.length lc])) :
    CkAt W w6 B F (.slice (some ⟨g6, 0, none⟩) (up.length + 1 + 1) cap6) E (t.l :: r.drop (k + 1) :: up) := by
  subst hdl0; subst hdc
  have hog : B ≤ og := by
    obtain ⟨_, _, _, _, _, he, _, hb, _⟩ := h.see
    simp only [Value.slice.injEq, Option.some.injEq, Addr.mk.injEq, and_true, true_and] at he
    rw [he.1]; exact hb
  obtain ⟨_, h3, h4, _, h6, h7⟩ := h
  have hs5 := h5.size
  have hb6 : Below B wr w6 := by
    have hg := HG.size
    rw [World.size_alloc, size_setCell] at hg
    refine ⟨by rw [HG.os]; exact h5.os, by rw [HG.tape]; exact h5.tape, by rw [HG.output]; exact h5.output, by omega, fun q hq => ?_⟩
    rw [HG.block q (by rw [World.size_alloc, size_setCell]; omega) (fun e => by simp at e; omega), Below.heap_alloc _ _ _ (by rw [size_setCell]; omega), heap_setCell_other _ _ _ _ (show q ≠ og by omega)]
    exact h5.block q (by omega)
  obtain ⟨a', c', he, hrow⟩ := hR.last
  simp only [Value.slice.injEq, true_and] at he
  obtain ⟨rfl, rfl⟩ := he
  have hdl : (r.drop (k + 1)).length = r.length - (k + 1) := by simp
  have hrd : RowAt wr (fun q => q < B) (FmAt wr B F) (r.drop (k + 1)) da (rc - (k + 1)) := by
    obtain ⟨b, off, rfl, _⟩ := hrow.2.2 (by intro e; rw [e] at hk; simp at hk)
    exact hrow.drop (k + 1) (by omega) (fun hne => hda b off rfl hne)
  refine ⟨⟨_, HO6, ?_⟩, h3.trans hb6, Nat.le_trans h4 hb6.size, hE, by simp only [List.length_cons]; omega, fun x hx => ?_⟩
  · rw [List.reverse_cons, List.reverse_cons]
    exact RowsV.keep (RowsV.snoc (RowsV.snoc hR.front (by rw [hdl]) hrd) rfl hL) hb6
  · have hr := h7 r (by simp)
    rcases List.mem_cons.1 hx with rfl | hx
    · intro y hy
      subst ht
      exact (hr _ (List.getElem_mem hk)).kid hy
    · rcases List.mem_cons.1 hx with rfl | hx
      · exact fun y hy => hr y (List.mem_of_mem_drop hy)
      · exact h7 x (by simp [hx])
theorem set_last {w : World} {B m og oc : Nat} {vs : List Value} {v u : Value} (h : w.ownsRow B 23 1 (.slice (some ⟨og, 0, none⟩) (m + 1) oc) (m + 1) (vs ++ [v])) (hm : vs.length = m) (o : Obj) :
    ((w.setCell ⟨og, m, none⟩ u).alloc o).ownsRow B 23 1 (.slice (some ⟨og, 0, none⟩) (m + 1) oc) (m + 1) (vs ++ [u]) := by
  have h1 := (h.stored m u).1
  have e : (vs ++ [v]).set m u = vs ++ [u] := by
    rw [← hm, List.set_append_right _ _ (by omega)]; simp
  rw [e] at h1
  exact h1.alloc o
theorem four_old {w w1 : World} {a b c d : Value} {T : TypeId} (h : Below (w.alloc (.cells #[a, b, c, d] T)).heap.size (w.alloc (.cells #[a, b, c, d] T)) w1) : w1.cell? ⟨w.heap.size, 0, none⟩ = some a ∧ w1.cell? ⟨w.heap.size, 1, none⟩ = some b ∧ w1.cell? ⟨w.heap.size, 2, none⟩ = some c ∧ w1.cell? ⟨w.heap.size, 3, none⟩ = some d := by
  have h1 : w1.heap[w.heap.size]? = some (.cells #[a, b, c, d] T (0, 0)) := (h.block w.heap.size (by rw [World.size_alloc]; omega)).trans (heap_alloc_new w _)
  exact blk4 h1

/-- The form at k of a row. -/
theorem RowAt.form {w : World} {B F rc k : Nat} {r : List Fm} {ra : Option Addr} (h : RowAt w (fun q => q < B) (FmAt w B F) r ra rc) (hk : k < r.length) :
    ∃ b off la lc, ra = some ⟨b, off, none⟩ ∧ b < B ∧ w.cell? ⟨b, off + k * 4, none⟩ = some (.int .i64 r[k].kind) ∧ w.cell? ⟨b, off + k * 4 + 1, none⟩ = some (.int .i64 r[k].n) ∧ w.cell? ⟨b, off + k * 4 + 2, none⟩ = some (.string ⟨⟨r[k].s⟩⟩) ∧ w.cell? ⟨b, off + k * 4 + 3, none⟩ = some (.slice la r[k].l.length lc) ∧
      FmAt w B F r[k] (.agg #[.int .i64 r[k].kind, .int .i64 r[k].n, .string ⟨⟨r[k].s⟩⟩, .slice la r[k].l.length lc]) := by
  obtain ⟨b, off, rfl, hb, hx⟩ := h.2.2 (fun e => by rw [e] at hk; simp at hk)
  obtain ⟨x0, x1, x2, x3, h0, h1, h2, h3, hr⟩ := hx k hk
  have hr' := hr
  obtain ⟨la, lc, he, _⟩ := FmD.shape hr
  simp only [Value.agg.injEq, Array.mk.injEq, List.cons.injEq, and_true] at he
  obtain ⟨rfl, rfl, rfl, rfl⟩ := he
  exact ⟨b, off, la, lc, rfl, hb, h0, h1, h2, h3, hr'⟩

theorem FmD.kids {w : World} {B F : Nat} {t : Fm} {k n : Int} {s : List UInt8} {la : Option Addr} {ll lc : Nat} (h : FmAt w B F t (.agg #[.int .i64 k, .int .i64 n, .string ⟨⟨s⟩⟩, .slice la ll lc])) : RowAt w (fun q => q < B) (FmAt w B F) t.l la lc := by
  match F, h with
  | F + 1, ⟨a, cap, hv, _, _, h3⟩ =>
    simp only [Value.agg.injEq, Array.mk.injEq, List.cons.injEq, Value.slice.injEq, and_true] at hv
    obtain ⟨_, _, _, rfl, _, rfl⟩ := hv
    exact h3.imp (fun _ _ => rfl) (fun _ h => h) (fun t v h => FmD.more h (by omega))

#print axioms CkAt.push
end Go.Proofs.YthhgphokbgpaiabDoor
