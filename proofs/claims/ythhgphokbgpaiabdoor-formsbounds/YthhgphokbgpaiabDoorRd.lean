/- What a reader of forms holds: the rows of the lists that are open, each in memory of its own. -/
import Derived.Test.YthhgphokbgpaiabDoorFo
namespace Go.Proofs.YthhgphokbgpaiabDoor
open Go.RowKit

theorem ownsRow_drew {w : World} {base n size : Nat} {e : TypeId} {v : Value} {xs : List Value} (h : w.ownsRow base e size v n xs) : w.drew.ownsRow base e size v n xs := h
theorem drew_block {w : World} {b : Nat} {o : Obj} (h : w.heap[b]? = some o) : w.drew.heap[b]? = some o := h
theorem size_drew (w : World) : w.drew.heap.size = w.heap.size := rfl
theorem new_block1 (w : World) (o1 o2 : Obj) : ((w.alloc o1).alloc o2).drew.heap[w.heap.size + 1]? = some o2 := by
  have := heap_alloc_new (w.alloc o1) o2
  rwa [World.size_alloc] at this

theorem owns_same {w w' : World} {base n size : Nat} {e : TypeId} {v : Value} {xs : List Value} (h : w.ownsRow base e size v n xs) (hs : ∀ g, v.ownBlock = some g → w'.heap[g]? = w.heap[g]?) : w'.ownsRow base e size v n xs := by
  refine ⟨h.1, h.2.imp id ?_⟩
  rintro ⟨g, cap, cur, rfl, h1, h2, h3⟩
  exact ⟨g, cap, cur, rfl, h1, (hs g rfl).trans h2, h3⟩

/-- The first m of a row. -/
theorem owns_cut {w : World} {base n size cap : Nat} {e : TypeId} {a : Option Addr} {xs ys : List Value} (h : w.ownsRow base e size (.slice a n cap) n (xs ++ ys)) (m : Nat) (hx : xs.length = m * size) (hm : m ≤ n) (ha : a ≠ none) : w.ownsRow base e size (.slice a m cap) m xs := by
  refine ⟨hx, ?_⟩
  rcases h.2 with ⟨h1, h2⟩ | ⟨g, cap', cur, h1, h2, h3, h4, h5, h6, h7⟩
  · simp only [Value.slice.injEq] at h1; exact absurd h1.1 ha
  · simp only [Value.slice.injEq, true_and] at h1
    obtain ⟨rfl, rfl⟩ := h1
    refine Or.inr ⟨g, cap, cur, rfl, h2, h3, by omega, h5, h6, ?_⟩
    have h8 := congrArg (List.take (m * size)) h7
    rw [List.take_take, Nat.min_eq_left (Nat.mul_le_mul_right _ hm), List.take_append_of_le_length (by omega), show xs.take (m * size) = xs from List.take_of_length_le (by omega)] at h8
    exact h8

/-- A block of a row that may still grow. -/
def Live (ov : Value) (vs : List Value) (q : Nat) : Prop := ov.ownBlock = some q ∨ ∃ v ∈ vs, v.ownBlock = some q

/-- A block of what is done. -/
def Free (w : World) (B : Nat) (ov : Value) (vs : List Value) (q : Nat) : Prop := B ≤ q ∧ q < w.heap.size ∧ ¬ Live ov vs q

/-- Rows of forms, the one at i so deep. -/
def Rows4 (w : World) (B : Nat) (D : Nat → Prop) (vs : List Value) (st : List (List Fm)) : Prop :=
  vs.length = st.length ∧ ∀ (i : Nat) (h' : i < vs.length) (h : i < st.length), ∃ xs, w.ownsRow B 25 4 vs[i] st[i].length xs ∧ KidsAt w D (31 - i) st[i] xs

/-- No two of them lie in one block. -/
def Apart (ov : Value) (vs : List Value) : Prop :=
  (∀ v ∈ vs, ∀ g, v.ownBlock = some g → ov.ownBlock ≠ some g) ∧ vs.Pairwise (fun a b => ∀ g, a.ownBlock = some g → b.ownBlock ≠ some g)

structure Rd (w : World) (rb B : Nat) (vs0 : List Value) (cv ov : Value) (st0 : List (List Fm)) (cur : List Fm) : Prop where
  lt : rb < B
  base : B ≤ w.heap.size
  blk : w.heap[rb]? = some (.cells #[cv, ov] 39 (0, 0))
  own : w.ownsRow B 23 1 ov vs0.length vs0
  rows : Rows4 w B (Free w B ov (vs0 ++ [cv])) (vs0 ++ [cv]) (st0 ++ [cur])
  apart : Apart ov (vs0 ++ [cv])

theorem Rows4.keep {w w' : World} {B : Nat} {D D' : Nat → Prop} {vs : List Value} {st : List (List Fm)} (h : Rows4 w B D vs st) (hs : ∀ q, (D q ∨ ∃ v ∈ vs, v.ownBlock = some q) → w'.heap[q]? = w.heap[q]?) (hD : ∀ q, D q → D' q) : Rows4 w' B D' vs st := by
  refine ⟨h.1, fun i h1 h2 => ?_⟩
  obtain ⟨xs, h3, h4⟩ := h.2 i h1 h2
  exact ⟨xs, owns_same h3 (fun g hg => hs g (Or.inr ⟨_, List.getElem_mem h1, hg⟩)), h4.keep (fun k hk => hs k (Or.inl hk)) hD⟩

theorem Rows4.front {w : World} {B : Nat} {D : Nat → Prop} {vs : List Value} {v : Value} {st : List (List Fm)} {c : List Fm} (h : Rows4 w B D (vs ++ [v]) (st ++ [c])) : Rows4 w B D vs st := by
  have hl : vs.length = st.length := by have := h.1; simp at this; exact this
  refine ⟨hl, fun i h1 h2 => ?_⟩
  have := h.2 i (by simp; omega) (by simp; omega)
  rwa [List.getElem_append_left h1, List.getElem_append_left h2] at this

theorem Rows4.last {w : World} {B : Nat} {D : Nat → Prop} {vs : List Value} {v : Value} {st : List (List Fm)} {c : List Fm} (h : Rows4 w B D (vs ++ [v]) (st ++ [c])) : ∃ xs, w.ownsRow B 25 4 v c.length xs ∧ KidsAt w D (31 - st.length) c xs := by
  have hl : vs.length = st.length := by have := h.1; simp at this; exact this
  have := h.2 st.length (by simp; omega) (by simp)
  rw [List.getElem_append_right (by omega), List.getElem_append_right (by omega)] at this
  simpa [hl] using this

theorem Rows4.snoc {w : World} {B : Nat} {D : Nat → Prop} {vs : List Value} {v : Value} {st : List (List Fm)} {c : List Fm} {xs : List Value} (h : Rows4 w B D vs st) (h1 : w.ownsRow B 25 4 v c.length xs) (h2 : KidsAt w D (31 - st.length) c xs) : Rows4 w B D (vs ++ [v]) (st ++ [c]) := by
  have hl := h.1
  refine ⟨by simp [hl], fun i h3 h4 => ?_⟩
  rcases Nat.lt_or_ge i st.length with hlt | hge
  · rw [List.getElem_append_left (by omega), List.getElem_append_left hlt]
    exact h.2 i (by omega) hlt
  · have he : i = st.length := by simp at h4; omega
    subst he
    rw [List.getElem_append_right (by omega), List.getElem_append_right (by omega)]
    simp only [hl, Nat.sub_self, List.getElem_cons_zero]
    exact ⟨xs, h1, h2⟩

theorem Rows4.lt {w : World} {B : Nat} {D : Nat → Prop} {vs : List Value} {st : List (List Fm)} (h : Rows4 w B D vs st) : ∀ v ∈ vs, ∀ g, v.ownBlock = some g → B ≤ g ∧ g < w.heap.size := by
  intro v hv g hg
  obtain ⟨i, hi, rfl⟩ := List.getElem_of_mem hv
  obtain ⟨xs, h3, _⟩ := h.2 i hi (by rw [← h.1]; exact hi)
  exact h3.lt g hg

theorem Apart.front {ov v : Value} {vs : List Value} (h : Apart ov (vs ++ [v])) : Apart ov vs :=
  ⟨fun u hu => h.1 u (by simp [hu]), (List.pairwise_append.1 h.2).1⟩

theorem Apart.last {ov v : Value} {vs : List Value} (h : Apart ov (vs ++ [v])) : (∀ u ∈ vs, ∀ g, u.ownBlock = some g → v.ownBlock ≠ some g) ∧ ∀ g, v.ownBlock = some g → ov.ownBlock ≠ some g :=
  ⟨fun u hu g hg => (List.pairwise_append.1 h.2).2.2 u hu v (by simp) g hg, fun g hg => h.1 v (by simp) g hg⟩

theorem Apart.snoc {ov v : Value} {vs : List Value} (h : Apart ov vs) (h1 : ∀ u ∈ vs, ∀ g, u.ownBlock = some g → v.ownBlock ≠ some g) (h2 : ∀ g, v.ownBlock = some g → ov.ownBlock ≠ some g) : Apart ov (vs ++ [v]) := by
  refine ⟨fun u hu g hg => ?_, List.pairwise_append.2 ⟨h.2, by simp, fun a ha b hb g hg => ?_⟩⟩
  · rcases List.mem_append.1 hu with hu | hu
    · exact h.1 u hu g hg
    · simp at hu; subst hu; exact h2 g hg
  · simp at hb; subst hb; exact h1 a ha g hg

theorem Apart.turn {ov ov' : Value} {vs : List Value} (h : Apart ov vs) (h1 : ∀ u ∈ vs, ∀ g, u.ownBlock = some g → ov'.ownBlock ≠ some g) : Apart ov' vs := ⟨h1, h.2⟩

/-- One form more in the nearest row. -/
theorem Rd.put {w w' : World} {rb B g : Nat} {vs0 : List Value} {cv cv' ov : Value} {st0 : List (List Fm)} {cur : List Fm} {xs : List Value} {t : Fm} {y0 y1 y2 y3 : Value} (h : Rd w rb B vs0 cv ov st0 cur)
    (hk : KidsAt w (Free w B ov (vs0 ++ [cv])) (31 - st0.length) cur xs)
    (hblk : w'.heap[rb]? = some (.cells #[cv', ov] 39 (0, 0))) (hfr : Fr (fun q => q = rb ∨ cv.ownBlock = some q) w w') (hown : w'.ownsRow B 25 4 cv' (cur.length + 1) (xs ++ [y0, y1, y2, y3]))
    (hg : cv'.ownBlock = some g) (hg2 : cv.ownBlock = some g ∨ w.heap.size ≤ g) (ht : FmD w' (Free w' B ov (vs0 ++ [cv'])) (31 - st0.length) t (.agg #[y0, y1, y2, y3])) :
    Rd w' rb B vs0 cv' ov st0 (cur ++ [t]) := by
  have hB := h.lt
  have hlv := h.rows.front.lt
  have hap := h.apart.last
  have hsame : ∀ q, (Free w B ov (vs0 ++ [cv]) q ∨ ∃ v ∈ vs0, v.ownBlock = some q) → w'.heap[q]? = w.heap[q]? := by
    rintro q (hq | ⟨v, hv, hq⟩)
    · refine hfr.block q hq.2.1 (fun e => ?_)
      rcases e with e | e
      · have := hq.1; omega
      · exact hq.2.2 (Or.inr ⟨cv, by simp, e⟩)
    · have := hlv v hv q hq
      refine hfr.block q this.2 (fun e => ?_)
      rcases e with e | e
      · omega
      · exact hap.1 v hv q hq e
  have hD : ∀ q, Free w B ov (vs0 ++ [cv]) q → Free w' B ov (vs0 ++ [cv']) q := by
    intro q hq
    refine ⟨hq.1, Nat.lt_of_lt_of_le hq.2.1 hfr.size, fun e => ?_⟩
    rcases e with e | ⟨v, hv, e⟩
    · exact hq.2.2 (Or.inl e)
    · rcases List.mem_append.1 hv with hv | hv
      · exact hq.2.2 (Or.inr ⟨v, by simp [hv], e⟩)
      · simp at hv; subst hv
        rw [hg] at e
        simp only [Option.some.injEq] at e
        subst e
        rcases hg2 with e | e
        · exact hq.2.2 (Or.inr ⟨cv, by simp, e⟩)
        · have := hq.2.1; omega
  refine ⟨hB, Nat.le_trans h.base hfr.size, hblk, owns_same h.own (fun q hq => ?_), Rows4.snoc (h.rows.front.keep hsame hD) (by rw [List.length_append]; exact hown) ?_, h.apart.front.snoc (fun u hu q hq e => ?_) (fun q hq e => ?_)⟩
  · have := h.own.lt q hq
    refine hfr.block q this.2 (fun e => ?_)
    rcases e with e | e
    · omega
    · exact hap.2 q e hq
  · exact KidsAt.snoc (hk.keep (fun q hq => hsame q (Or.inl hq)) hD) ht
  · rw [hg] at e
    simp only [Option.some.injEq] at e
    subst e
    rcases hg2 with e | e
    · exact hap.1 u hu g hq e
    · have := hlv u hu g hq; omega
  · rw [hg] at hq
    simp only [Option.some.injEq] at hq
    subst hq
    rcases hg2 with e2 | e2
    · exact hap.2 g e2 e
    · have := h.own.lt g e; omega

/-- A list more is open. -/
theorem Rd.push {w w' : World} {rb B g : Nat} {vs0 : List Value} {cv ov ov' : Value} {st0 : List (List Fm)} {cur : List Fm} (h : Rd w rb B vs0 cv ov st0 cur)
    (hblk : w'.heap[rb]? = some (.cells #[.slice none 0 0, ov'] 39 (0, 0))) (hfr : Fr (fun q => q = rb ∨ ov.ownBlock = some q) w w') (hown : w'.ownsRow B 23 1 ov' (vs0.length + 1) (vs0 ++ [cv]))
    (hg : ov'.ownBlock = some g) (hg2 : ov.ownBlock = some g ∨ w.heap.size ≤ g) :
    Rd w' rb B (vs0 ++ [cv]) (.slice none 0 0) ov' (st0 ++ [cur]) [] := by
  have hB := h.lt
  have hlv := h.rows.lt
  have hsame : ∀ q, (Free w B ov (vs0 ++ [cv]) q ∨ ∃ v ∈ vs0 ++ [cv], v.ownBlock = some q) → w'.heap[q]? = w.heap[q]? := by
    rintro q (hq | ⟨v, hv, hq⟩)
    · refine hfr.block q hq.2.1 (fun e => ?_)
      rcases e with e | e
      · have := hq.1; omega
      · exact hq.2.2 (Or.inl e)
    · have := hlv v hv q hq
      refine hfr.block q this.2 (fun e => ?_)
      rcases e with e | e
      · omega
      · exact h.apart.1 v hv q hq e
  have hD : ∀ q, Free w B ov (vs0 ++ [cv]) q → Free w' B ov' ((vs0 ++ [cv]) ++ [.slice none 0 0]) q := by
    intro q hq
    refine ⟨hq.1, Nat.lt_of_lt_of_le hq.2.1 hfr.size, fun e => ?_⟩
    rcases e with e | ⟨v, hv, e⟩
    · rw [hg] at e
      simp only [Option.some.injEq] at e
      subst e
      rcases hg2 with e | e
      · exact hq.2.2 (Or.inl e)
      · have := hq.2.1; omega
    · rcases List.mem_append.1 hv with hv | hv
      · exact hq.2.2 (Or.inr ⟨v, hv, e⟩)
      · simp at hv; subst hv; cases e
  refine ⟨hB, Nat.le_trans h.base hfr.size, hblk, by rw [List.length_append]; exact hown, Rows4.snoc (h.rows.keep hsame hD) (xs := []) (World.ownsRow_nil _ _ _ _) (KidsAt.nil _ _ _), Apart.snoc (h.apart.turn (fun u hu q hq e => ?_)) (fun u hu q hq e => by cases e) (fun q hq => by cases hq)⟩
  rw [hg] at e
  simp only [Option.some.injEq] at e
  subst e
  rcases hg2 with e2 | e2
  · exact h.apart.1 u hu g hq e2
  · have := hlv u hu g hq; omega

/-- The nearest list is closed. -/
theorem Rd.shut {w w' : World} {rb B g : Nat} {vs1 : List Value} {uv uv' cv ov ov' : Value} {st1 : List (List Fm)} {up cur : List Fm} {xs : List Value} (h : Rd w rb B (vs1 ++ [uv]) cv ov (st1 ++ [up]) cur) (hd : st1.length ≤ 30)
    (hk : KidsAt w (Free w B ov ((vs1 ++ [uv]) ++ [cv])) (31 - st1.length) up xs)
    (hblk : w'.heap[rb]? = some (.cells #[uv', ov'] 39 (0, 0))) (hfr : Fr (fun q => q = rb ∨ uv.ownBlock = some q) w w') (hown : w'.ownsRow B 25 4 uv' (up.length + 1) (xs ++ [.int .i64 3, .int .i64 0, .string ⟨#[]⟩, cv]))
    (hov : w'.ownsRow B 23 1 ov' vs1.length vs1) (hob : ov'.ownBlock = ov.ownBlock)
    (hg : uv'.ownBlock = some g) (hg2 : uv.ownBlock = some g ∨ w.heap.size ≤ g) :
    Rd w' rb B vs1 uv' ov' st1 (up ++ [⟨3, 0, [], cur⟩]) := by
  have hB := h.lt
  have hlv := h.rows.lt
  have hap := h.apart.front.last
  have hac := h.apart.last
  have huv : ∀ q, uv.ownBlock = some q → cv.ownBlock ≠ some q := fun q hq => hac.1 uv (by simp) q hq
  have hsame : ∀ q, (Free w B ov ((vs1 ++ [uv]) ++ [cv]) q ∨ (∃ v ∈ vs1, v.ownBlock = some q) ∨ cv.ownBlock = some q) → w'.heap[q]? = w.heap[q]? := by
    rintro q (hq | ⟨v, hv, hq⟩ | hq)
    · refine hfr.block q hq.2.1 (fun e => ?_)
      rcases e with e | e
      · have := hq.1; omega
      · exact hq.2.2 (Or.inr ⟨uv, by simp, e⟩)
    · have := hlv v (by simp [hv]) q hq
      refine hfr.block q this.2 (fun e => ?_)
      rcases e with e | e
      · omega
      · exact hap.1 v hv q hq e
    · have := hlv cv (by simp) q hq
      refine hfr.block q this.2 (fun e => ?_)
      rcases e with e | e
      · omega
      · exact huv q e hq
  have hD : ∀ q, (Free w B ov ((vs1 ++ [uv]) ++ [cv]) q ∨ cv.ownBlock = some q) → Free w' B ov' (vs1 ++ [uv']) q := by
    intro q hq
    have hlt : B ≤ q ∧ q < w.heap.size := by
      rcases hq with hq | hq
      · exact ⟨hq.1, hq.2.1⟩
      · exact hlv cv (by simp) q hq
    refine ⟨hlt.1, Nat.lt_of_lt_of_le hlt.2 hfr.size, fun e => ?_⟩
    rcases e with e | ⟨v, hv, e⟩
    · rw [hob] at e
      rcases hq with hq | hq
      · exact hq.2.2 (Or.inl e)
      · exact hac.2 q hq e
    · rcases List.mem_append.1 hv with hv | hv
      · rcases hq with hq | hq
        · exact hq.2.2 (Or.inr ⟨v, by simp [hv], e⟩)
        · exact hac.1 v (by simp [hv]) q e hq
      · simp at hv; subst hv
        rw [hg] at e
        simp only [Option.some.injEq] at e
        subst e
        rcases hg2 with e | e
        · rcases hq with hq | hq
          · exact hq.2.2 (Or.inr ⟨uv, by simp, e⟩)
          · exact huv g e hq
        · omega
  obtain ⟨xc, hc1, hc2⟩ := h.rows.last
  have hform : FmD w' (Free w' B ov' (vs1 ++ [uv'])) (31 - st1.length) ⟨3, 0, [], cur⟩ (.agg #[.int .i64 3, .int .i64 0, .string ⟨#[]⟩, cv]) := by
    have hk2 : KidsAt w' (Free w' B ov' (vs1 ++ [uv'])) (30 - st1.length) cur xc := by
      have := hc2.keep (w' := w') (D' := Free w' B ov' (vs1 ++ [uv'])) (fun q hq => hsame q (Or.inl hq)) (fun q hq => hD q (Or.inl hq))
      rw [List.length_append] at this
      simpa using this
    have ho2 := owns_same (w' := w') hc1 (fun q hq => hsame q (Or.inr (Or.inr hq)))
    obtain ⟨a, cap, hv, hrow⟩ := hk2.row ho2 rfl (fun q hq => hD q (Or.inr hq)) (fun _ _ x => x)
    rw [show 31 - st1.length = (30 - st1.length) + 1 by omega, hv]
    exact ⟨a, cap, rfl, by unfold I64; simp only; omega, by unfold I64; simp only; omega, hrow⟩
  refine ⟨hB, Nat.le_trans h.base hfr.size, hblk, hov, Rows4.snoc (h.rows.front.front.keep (fun q hq => hsame q (hq.imp id Or.inl)) (fun q hq => hD q (Or.inl hq))) (by rw [List.length_append]; exact hown) ?_, Apart.snoc (h.apart.front.front.turn (fun u hu q hq e => ?_)) (fun u hu q hq e => ?_) (fun q hq e => ?_)⟩
  · exact KidsAt.snoc (hk.keep (fun q hq => hsame q (Or.inl hq)) (fun q hq => hD q (Or.inl hq))) hform
  · rw [hob] at e; exact h.apart.1 u (by simp [hu]) q hq e
  · rw [hg] at e
    simp only [Option.some.injEq] at e
    subst e
    rcases hg2 with e | e
    · exact hap.1 u hu g hq e
    · have := hlv u (by simp [hu]) g hq; omega
  · rw [hg] at hq
    simp only [Option.some.injEq] at hq
    subst hq
    rw [hob] at e
    rcases hg2 with e2 | e2
    · exact hap.2 g e2 e
    · have := h.own.lt g e; omega
#print axioms Rd.shut
end Go.Proofs.YthhgphokbgpaiabDoor
