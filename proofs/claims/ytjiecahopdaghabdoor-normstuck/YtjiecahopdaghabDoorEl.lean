/- Terms that functions make: what holds of a value; rows of them; ref.T, ref.V. -/
import Derived.Test.YtjiecahopdaghabDoorRl
import Derived.Test.YtjiecahopdaghabDoorNt
import Derived.Test.YtjiecahopdaghabDoorSz
import Derived.Test.YtjiecahopdaghabDoorSm
import Derived.Test.YtjiecahopdaghabDoorRh
namespace Go.Proofs.YtjiecahopdaghabDoor
open Go.RowKit

theorem kid_sum {l : List Tr} {x : Tr} (h : x ∈ l) : x.size ≤ (l.map Tr.size).sum := by
  induction l with
  | nil => simp at h
  | cons y l ih =>
    simp only [List.map_cons, List.sum_cons]
    rcases List.mem_cons.1 h with rfl | h
    · omega
    · have := ih h; omega

/-- A tree lies no deeper than it has nodes. -/
theorem TmD.tight {w : World} {D : Nat → Prop} {f : Nat} : ∀ {t : Tr} {v : Value}, TmD w D f t v → TmD w D t.size t v := by
  induction f with
  | zero => intro t v h; exact h.elim
  | succ f ih =>
    rintro t v ⟨a, cap, rfl, h1, h2, h3⟩
    obtain ⟨g, hg⟩ : ∃ g, t.size = g + 1 := ⟨t.size - 1, by have := t.size_pos; omega⟩
    rw [hg]
    refine ⟨a, cap, rfl, h1, h2, h3.1, h3.2.1, fun hne => ?_⟩
    obtain ⟨b, off, e, hD, hx⟩ := h3.2.2 hne
    refine ⟨b, off, e, hD, fun i hi => ?_⟩
    obtain ⟨x0, x1, x2, e0, e1, e2, hr⟩ := hx i hi
    have hs := kid_sum (List.getElem_mem hi)
    have := t.size_eq
    exact ⟨x0, x1, x2, e0, e1, e2, TmD.more (ih hr) (by omega)⟩

/-- A value is a tree that lies in blocks of D. -/
def IsD (D : Nat → Prop) (T : Tr) (v : Value) (w : World) : Prop :=
  ∃ p0 p1 pa pl pc, v = .agg #[.int .i64 p0, .int .i64 p1, .slice pa pl pc] ∧ TmD w (fun k => D k ∧ k < w.heap.size) T.size T (.agg #[.int .i64 p0, .int .i64 p1, .slice pa pl pc])

theorem IsD.keep {D : Nat → Prop} {T : Tr} {v : Value} {w w' : World} (h : IsD D T v w) (hb : Below w.heap.size w w') : IsD D T v w' := by
  obtain ⟨p0, p1, pa, pl, pc, e, ht⟩ := h
  exact ⟨p0, p1, pa, pl, pc, e, ht.keep (fun k hk => hb.block k hk.2) (fun k hk => ⟨hk.1, Nat.lt_of_lt_of_le hk.2 hb.size⟩) _ _ _⟩
theorem IsD.mono {D D' : Nat → Prop} {T : Tr} {v : Value} {w : World} (h : IsD D T v w) (hd : ∀ k, k < w.heap.size → D k → D' k) : IsD D' T v w := by
  obtain ⟨p0, p1, pa, pl, pc, e, ht⟩ := h
  exact ⟨p0, p1, pa, pl, pc, e, ht.keep (fun _ _ => rfl) (fun k hk => ⟨hd k hk.2 hk.1, hk.2⟩) _ _ _⟩
theorem IsD.tm {D : Nat → Prop} {T : Tr} {v : Value} {w : World} (h : IsD D T v w) : TmAt w w.heap.size T.size T v := by
  obtain ⟨p0, p1, pa, pl, pc, e, ht⟩ := h
  rw [e]
  exact ht.keep (fun _ _ => rfl) (fun k hk => hk.2) _ _ _
theorem IsD.of {D : Nat → Prop} {T : Tr} {f : Nat} {p0 p1 : Int} {pa : Option Addr} {pl pc : Nat} {w : World} (h : TmD w (fun k => D k ∧ k < w.heap.size) f T (.agg #[.int .i64 p0, .int .i64 p1, .slice pa pl pc])) : IsD D T (.agg #[.int .i64 p0, .int .i64 p1, .slice pa pl pc]) w :=
  ⟨p0, p1, pa, pl, pc, rfl, h.tight⟩
/-- A box that nothing of it lies in is written. -/
theorem IsD.poke {D : Nat → Prop} {T : Tr} {v : Value} {w : World} {q : Nat} {x y z : Value} (h : IsD (fun k => D k ∧ k ≠ q) T v w) : IsD D T v (((w.setCell ⟨q, 0, none⟩ x).setCell ⟨q, 1, none⟩ y).setCell ⟨q, 2, none⟩ z) := by
  obtain ⟨p0, p1, pa, pl, pc, e, ht⟩ := h
  have hsz : (((w.setCell ⟨q, 0, none⟩ x).setCell ⟨q, 1, none⟩ y).setCell ⟨q, 2, none⟩ z).heap.size = w.heap.size := by simp [World.setCell]
  exact ⟨p0, p1, pa, pl, pc, e, ht.keep (fun k hk => by rw [heap_setCell_other _ _ _ _ hk.1.2, heap_setCell_other _ _ _ _ hk.1.2, heap_setCell_other _ _ _ _ hk.1.2]) (fun k hk => ⟨hk.1.1, by rw [hsz]; exact hk.2⟩) _ _ _⟩

/-- What makes a tree. -/
def TmOut (D : Nat → Prop) (w : World) (T : Tr) (e : Ending) (w' : World) : Prop := ∃ u, e = .returned u ∧ IsD D T u w' ∧ Below w.heap.size w w'

/-- A row of trees. -/
def IsR (D : Nat → Prop) (ts : List Tr) (v : Value) (w : World) : Prop :=
  ∃ a f, v = .slice a ts.length ts.length ∧ RowAt w (fun k => D k ∧ k < w.heap.size) (TmD w (fun k => D k ∧ k < w.heap.size) f) ts a ts.length

theorem IsR.keep {D : Nat → Prop} {ts : List Tr} {v : Value} {w w' : World} (h : IsR D ts v w) (hb : Below w.heap.size w w') : IsR D ts v w' := by
  obtain ⟨a, f, e, hr⟩ := h
  exact ⟨a, f, e, hr.imp (fun k hk => hb.block k hk.2) (fun k hk => ⟨hk.1, Nat.lt_of_lt_of_le hk.2 hb.size⟩) (fun t v ht => ht.keep (fun k hk => hb.block k hk.2) (fun k hk => ⟨hk.1, Nat.lt_of_lt_of_le hk.2 hb.size⟩) _ _ _)⟩
theorem isR_nil {D : Nat → Prop} {w : World} : IsR D [] (.slice none 0 0) w := ⟨none, 0, rfl, RowAt.nil (Nat.zero_le _)⟩
theorem row_n {D : Nat → Prop} {w : World} {cs : Array Value} (ts : List Tr) (hl : ts.length ≤ 1000) (hD : ∀ k, w.heap.size ≤ k → D k)
    (hc : ∀ (i : Nat) (h : i < ts.length), ∃ x0 x1 x2, cs[i * 3]? = some x0 ∧ cs[i * 3 + 1]? = some x1 ∧ cs[i * 3 + 2]? = some x2 ∧ IsD D ts[i] (.agg #[x0, x1, x2]) w) :
    IsR D ts (.slice (some ⟨w.heap.size, 0, none⟩) ts.length ts.length) (w.alloc (.cells cs 26)) := by
  have hb := later_alloc w (.cells cs 26)
  refine ⟨_, (ts.map Tr.size).sum, rfl, row_blk' (heap_alloc_new w _) ⟨hD _ (Nat.le_refl _), by simp⟩ (by unfold maxLen; omega) (fun i hi => ?_)⟩
  obtain ⟨x0, x1, x2, e0, e1, e2, hx⟩ := hc i hi
  obtain ⟨p0, p1, pa, pl, pc, e, ht⟩ := hx.keep hb
  refine ⟨x0, x1, x2, e0, e1, e2, ?_⟩
  rw [e]
  exact TmD.more ht (kid_sum (List.getElem_mem hi))
theorem row1 {D : Nat → Prop} {w : World} {T : Tr} {x0 x1 x2 : Value} (hD : ∀ k, w.heap.size ≤ k → D k) (h : IsD D T (.agg #[x0, x1, x2]) w) : IsR D [T] (.slice (some ⟨w.heap.size, 0, none⟩) 1 1) (w.alloc (.cells #[x0, x1, x2] 26)) :=
  row_n [T] (by simp) hD (fun i hi => by
    match i, hi with
    | 0, _ => exact ⟨_, _, _, rfl, rfl, rfl, h⟩
    | i + 1, hi => simp at hi)
theorem row2 {D : Nat → Prop} {w : World} {T S : Tr} {x0 x1 x2 y0 y1 y2 : Value} (hD : ∀ k, w.heap.size ≤ k → D k) (h : IsD D T (.agg #[x0, x1, x2]) w) (g : IsD D S (.agg #[y0, y1, y2]) w) :
    IsR D [T, S] (.slice (some ⟨w.heap.size, 0, none⟩) 2 2) (w.alloc (.cells #[x0, x1, x2, y0, y1, y2] 26)) :=
  row_n [T, S] (by simp) hD (fun i hi => by
    match i, hi with
    | 0, _ => exact ⟨_, _, _, rfl, rfl, rfl, h⟩
    | 1, _ => exact ⟨_, _, _, rfl, rfl, rfl, g⟩
    | i + 2, hi => simp at hi; omega)
theorem row3 {D : Nat → Prop} {w : World} {T S U : Tr} {x0 x1 x2 y0 y1 y2 z0 z1 z2 : Value} (hD : ∀ k, w.heap.size ≤ k → D k) (h : IsD D T (.agg #[x0, x1, x2]) w) (g : IsD D S (.agg #[y0, y1, y2]) w) (f : IsD D U (.agg #[z0, z1, z2]) w) :
    IsR D [T, S, U] (.slice (some ⟨w.heap.size, 0, none⟩) 3 3) (w.alloc (.cells #[x0, x1, x2, y0, y1, y2, z0, z1, z2] 26)) :=
  row_n [T, S, U] (by simp) hD (fun i hi => by
    match i, hi with
    | 0, _ => exact ⟨_, _, _, rfl, rfl, rfl, h⟩
    | 1, _ => exact ⟨_, _, _, rfl, rfl, rfl, g⟩
    | 2, _ => exact ⟨_, _, _, rfl, rfl, rfl, f⟩
    | i + 3, hi => simp at hi; omega)
theorem row4 {D : Nat → Prop} {w : World} {T S U V : Tr} {x0 x1 x2 y0 y1 y2 z0 z1 z2 u0 u1 u2 : Value} (hD : ∀ k, w.heap.size ≤ k → D k) (h : IsD D T (.agg #[x0, x1, x2]) w) (g : IsD D S (.agg #[y0, y1, y2]) w) (f : IsD D U (.agg #[z0, z1, z2]) w) (e : IsD D V (.agg #[u0, u1, u2]) w) :
    IsR D [T, S, U, V] (.slice (some ⟨w.heap.size, 0, none⟩) 4 4) (w.alloc (.cells #[x0, x1, x2, y0, y1, y2, z0, z1, z2, u0, u1, u2] 26)) :=
  row_n [T, S, U, V] (by simp) hD (fun i hi => by
    match i, hi with
    | 0, _ => exact ⟨_, _, _, rfl, rfl, rfl, h⟩
    | 1, _ => exact ⟨_, _, _, rfl, rfl, rfl, g⟩
    | 2, _ => exact ⟨_, _, _, rfl, rfl, rfl, f⟩
    | 3, _ => exact ⟨_, _, _, rfl, rfl, rfl, e⟩
    | i + 4, hi => simp at hi; omega)

theorem v_any (n : Int) (w : World) : Calls Tryd.prog 10 #[.int .i64 n] w fun e w' => e = .returned (.agg #[.int .i64 1, .int .i64 n, .slice none 0 0]) ∧ Below w.heap.size w w' := by
  have HA : Hid (∀ o, Below w.heap.size w (w.alloc o)) := hide (later_alloc w)
  go_enter Tryd.func10, Tryd.ntmps10
  go_wp2_with fail
  refine bodyPost_ret (v := .agg #[.int .i64 1, .int .i64 n, .slice none 0 0]) (by simp [results, Tryd.results10, go_sem]) rfl ⟨rfl, HA.out _⟩
theorem t_any (op : Int) (a : Option Addr) (l c : Nat) (w : World) : Calls Tryd.prog 14 #[.int .i64 op, .slice a l c] w fun e w' => e = .returned (.agg #[.int .i64 op, .int .i64 0, .slice a l c]) ∧ Below w.heap.size w w' := by
  have HA : Hid (∀ o, Below w.heap.size w (w.alloc o)) := hide (later_alloc w)
  go_enter Tryd.func14, Tryd.ntmps14
  go_wp2_with fail
  refine bodyPost_ret (v := .agg #[.int .i64 op, .int .i64 0, .slice a l c]) (by simp [results, Tryd.results14, go_sem]) rfl ⟨rfl, HA.out _⟩
theorem e_v {D : Nat → Prop} {n : Int} (hn : I64 n) (w : World) : Calls Tryd.prog 10 #[.int .i64 n] w (TmOut D w ⟨1, n, []⟩) := by
  refine (v_any n w).mono ?_
  rintro e w' ⟨rfl, hb⟩
  exact ⟨_, rfl, IsD.of (tmd_leaf 0 i64_one hn), hb⟩
theorem e_t {D : Nat → Prop} {op : Int} {ts : List Tr} {v : Value} {w : World} (ho : I64 op) (h : IsR D ts v w) : Calls Tryd.prog 14 #[.int .i64 op, v] w (TmOut D w ⟨op, 0, ts⟩) := by
  obtain ⟨a, f, rfl, hr⟩ := h
  refine (t_any op a _ _ w).mono ?_
  rintro e w' ⟨rfl, hb⟩
  have h' : IsR D ts (.slice a ts.length ts.length) w' := IsR.keep ⟨a, f, rfl, hr⟩ hb
  obtain ⟨a', f', e, hr'⟩ := h'
  simp only [Value.slice.injEq, and_true] at e
  subst e
  exact ⟨_, rfl, IsD.of (f := f' + 1) ⟨a, ts.length, rfl, ho, i64_zero, hr'⟩, hb⟩

/-- A tree stands in a box. -/
def BoxR (D : Nat → Prop) (W : World) (q : Nat) (T : Tr) (_ : Nat → Value) (w : World) : Prop :=
  ∃ p0 p1 pa pl pc w9, w = ((w9.setCell ⟨q, 0, none⟩ (.int .i64 p0)).setCell ⟨q, 1, none⟩ (.int .i64 p1)).setCell ⟨q, 2, none⟩ (.slice pa pl pc) ∧ Below W.heap.size W w9 ∧ IsD D T (.agg #[.int .i64 p0, .int .i64 p1, .slice pa pl pc]) w9 ∧
    w9.heap[q]? = some (.cells #[.int .i64 0, .int .i64 0, .slice none 0 0] 26 (0, 0))

/-- What a function answers out of its box. -/
theorem box_out {D : Nat → Prop} {w W w9 : World} {q : Nat} {T : Tr} {p0 p1 : Int} {pa : Option Addr} {pl pc : Nat} (hq : w.heap.size ≤ q) (h0 : Below w.heap.size w W) (hb : Below W.heap.size W w9) (h : IsD (fun k => D k ∧ k ≠ q) T (.agg #[.int .i64 p0, .int .i64 p1, .slice pa pl pc]) w9) :
    TmOut D w T (.returned (.agg #[.int .i64 p0, .int .i64 p1, .slice pa pl pc])) (((w9.setCell ⟨q, 0, none⟩ (.int .i64 p0)).setCell ⟨q, 1, none⟩ (.int .i64 p1)).setCell ⟨q, 2, none⟩ (.slice pa pl pc)) :=
  ⟨_, rfl, h.poke, (((h0.trans (hb.mono h0.size)).setCell (p := ⟨q, 0, none⟩) hq _).setCell (p := ⟨q, 1, none⟩) hq _).setCell (p := ⟨q, 2, none⟩) hq _⟩
theorem out_cells {w9 : World} {q : Nat} {p0 p1 : Int} {pa : Option Addr} {pl pc : Nat} (h : w9.heap[q]? = some (.cells #[.int .i64 0, .int .i64 0, .slice none 0 0] 26 (0, 0))) :
    (((w9.setCell ⟨q, 0, none⟩ (.int .i64 p0)).setCell ⟨q, 1, none⟩ (.int .i64 p1)).setCell ⟨q, 2, none⟩ (.slice pa pl pc)).heap[q]? = some (.cells #[.int .i64 p0, .int .i64 p1, .slice pa pl pc] 26 (0, 0)) := by
  rw [heap_setCell_same _ _ 2 _ _ _ (heap_setCell_same _ _ 1 _ _ _ (heap_setCell_same _ _ 0 _ _ _ h))]; rfl

/-- Boxes that are made one after the other. -/
theorem alloc1 (w : World) (x0 : Obj) : (w.alloc x0).heap[w.heap.size]? = some x0 ∧ Below w.heap.size w (w.alloc x0) ∧ (w.alloc x0).heap.size = w.heap.size + 1 := ⟨heap_alloc_new _ _, later_alloc _ _, by simp⟩
theorem alloc2 (w : World) (x0 x1 : Obj) : ((w.alloc x0).alloc x1).heap[w.heap.size]? = some x0 ∧ ((w.alloc x0).alloc x1).heap[w.heap.size + 1]? = some x1 ∧ Below w.heap.size w ((w.alloc x0).alloc x1) ∧ ((w.alloc x0).alloc x1).heap.size = w.heap.size + 2 := by
  have h1 := heap_alloc_new (w.alloc x0) x1
  rw [World.size_alloc] at h1
  refine ⟨?_, h1, ((Below.refl _ _).alloc (Nat.le_refl _) _).alloc (by simp) _, by simp⟩
  rw [Below.heap_alloc _ _ _ (by simp)]; exact heap_alloc_new _ _
theorem alloc3 (w : World) (x0 x1 x2 : Obj) : (((w.alloc x0).alloc x1).alloc x2).heap[w.heap.size]? = some x0 ∧ (((w.alloc x0).alloc x1).alloc x2).heap[w.heap.size + 1]? = some x1 ∧ (((w.alloc x0).alloc x1).alloc x2).heap[w.heap.size + 2]? = some x2 ∧ Below w.heap.size w (((w.alloc x0).alloc x1).alloc x2) ∧ (((w.alloc x0).alloc x1).alloc x2).heap.size = w.heap.size + 3 := by
  obtain ⟨a0, a1, a2, a3⟩ := alloc2 w x0 x1
  have h2 := heap_alloc_new ((w.alloc x0).alloc x1) x2
  rw [a3] at h2
  refine ⟨?_, ?_, h2, a2.alloc (by omega) _, by simp⟩
  · rw [Below.heap_alloc _ _ _ (by omega)]; exact a0
  · rw [Below.heap_alloc _ _ _ (by omega)]; exact a1

/-- The terms of the laws. -/
abbrev natT : Tr := ⟨10, 0, []⟩
abbrev zeroT : Tr := ⟨11, 0, []⟩
abbrev varT (n : Int) : Tr := ⟨1, n, []⟩
def numT : Nat → Tr
  | 0 => zeroT
  | n + 1 => ⟨12, 0, [numT n]⟩
abbrev plusT (n m : Tr) : Tr := ⟨13, 0, [natT, m, ⟨12, 0, [varT 0]⟩, n]⟩
abbrev lamT (b : Tr) : Tr := ⟨4, 0, [natT, b]⟩
abbrev appT (f a : Tr) : Tr := ⟨5, 0, [f, a]⟩
abbrev timesT (n m : Tr) : Tr := ⟨13, 0, [natT, zeroT, plusT (shf 2 0 0 m) (varT 0), n]⟩

theorem e_shift {D : Nat → Prop} {T : Tr} {v : Value} {b : Int} {w : World} (hD : ∀ k, w.heap.size ≤ k → D k) (h : IsD D T v w) (hb : 0 ≤ b ∧ b ≤ 1000000) (hz : T.size ≤ 900000) (hs : Snd 1000000000 T) : Calls Tryd.prog 27 #[v, .int .i64 b, .int .i64 0] w (TmOut D w (shf b 0 0 T)) := by
  have h1 := rshift_any w.heap.size T.size b 0 T v 0 w h.tm (Nat.le_refl _) hb.1 hb.2 (by decide) (by omega) (by omega) hs
  refine h1.mono ?_
  rintro e w' ⟨p0, p1, pa, pl, pc, rfl, ht, hbl⟩
  exact ⟨_, rfl, IsD.of (ht.keep (fun _ _ => rfl) (fun k hk => ⟨hD k hk.1, hk.2⟩) _ _ _), hbl⟩
theorem e_same {D : Nat → Prop} {T S : Tr} {v u : Value} {w : World} (h : IsD D T v w) (g : IsD D S u w) : Calls Tryd.prog 34 #[v, u] w fun e w' => ∃ r, e = .returned (.bool r) ∧ (r = true ↔ T = S) ∧ Below w.heap.size w w' :=
  same_any w.heap.size (T.size + S.size) T S v u w (TmD.more h.tm (by omega)) (TmD.more g.tm (by omega)) (Nat.le_refl _)
theorem e_size {D : Nat → Prop} {T : Tr} {v : Value} {w : World} (h : IsD D T v w) (hz : T.size ≤ 1000000) : Calls Tryd.prog 32 #[v] w fun e w' => e = .returned (.int .i64 (T.size : Nat)) ∧ Below w.heap.size w w' :=
  size_any w.heap.size T.size T v w h.tm (Nat.le_refl _) hz
/-- What Normal answers, of a tree. -/
def NormE (D : Nat → Prop) (w : World) (r : Tr × Int) (e : Ending) (w' : World) : Prop := ∃ u, e = .returned (.tuple #[u, .int .i64 r.2]) ∧ IsD D (if r.2 = 0 then r.1 else noTm) u w' ∧ Below w.heap.size w w'
theorem e_normal {D : Nat → Prop} {T : Tr} {v : Value} {w : World} {r : Tr × Int} {g : Nat} (hD : ∀ k, w.heap.size ≤ k → D k) (h : IsD D T v w) (hz : T.size ≤ 1000000) (ht : Tb w) (he : normM g T = some r) : Calls Tryd.prog 19 #[v] w (NormE D w r) := by
  obtain ⟨f, hf⟩ : ∃ f, T.size = f + 1 := ⟨T.size - 1, by have := T.size_pos; omega⟩
  have h0 := h.tm
  rw [hf] at h0
  obtain ⟨a, cap, rfl, h1, h2, h3⟩ := h0
  refine (normal_any g (f := f + 1) ⟨a, cap, rfl, h1, h2, h3⟩ hz ht he).mono ?_
  rintro e w' ⟨p0, p1, pa, pl, pc, rfl, hb, ht1, ht2⟩
  refine ⟨_, rfl, ?_, hb⟩
  by_cases h : r.2 = 0
  · rw [if_pos h]
    exact IsD.of ((ht1 h).keep (fun _ _ => rfl) (fun k hk => ⟨hD k hk.1, hk.2⟩) _ _ _)
  · rw [if_neg h]
    obtain ⟨rfl, rfl, rfl, rfl, rfl⟩ := ht2 h
    exact IsD.of (tmd_leaf 0 i64_zero i64_zero)
#print axioms e_normal
end Go.Proofs.YtjiecahopdaghabDoor
