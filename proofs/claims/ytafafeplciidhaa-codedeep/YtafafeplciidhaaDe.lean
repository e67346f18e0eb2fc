/- CodeDeep: the walk of the statement's function. -/
import Derived.Test.YtafafeplciidhaaLf
import Derived.Test.YtafafeplciidhaaDp
import Derived.Deep.CutBlock
import Derived.Deep.AppendLies
namespace Go.Proofs.Ytafafeplciidhaa
open Go.RowKit

attribute [local go_sem ↓] Go.wp_at_zero Go.wp_at_succ

/-- One kid more, in a box. -/
theorem box_grow {wo w5 w6 : World} {tb f k kc g6 cap6 : Nat} {ka : Option Addr} {x0 x1 p0 p1 p2 : Value} {ts : List Tr} {t' : Tr} {xs : List Value} {o5 : Obj}
    (HBT : wo.heap[tb]? = some (.cells #[x0, x1, .slice ka k kc] 29 (0, 0))) (HO : wo.ownsRow (tb + 1) 29 3 (.slice ka k kc) k xs)
    (HK : KidsAt wo (fun q => tb + 1 ≤ q ∧ q < wo.heap.size ∧ some q ≠ (Value.slice ka k kc).ownBlock) f ts xs)
    (HT5 : TmD w5 (fun q => wo.heap.size ≤ q ∧ q < w5.heap.size) f t' (.agg #[p0, p1, p2])) (HB5 : Below wo.heap.size wo w5)
    (HO6 : w6.ownsRow (tb + 1) 29 3 (.slice (some ⟨g6, 0, none⟩) (k + 1) cap6) (k + 1) (xs ++ [p0, p1, p2])) (HG6 : (w5.alloc o5).grownBy w6 (Value.slice ka k kc).ownBlock)
    (HA6 : (Value.slice ka k kc).ownBlock = some g6 ∨ g6 = w5.heap.size + 1) :
    (w6.setCell ⟨tb, 2, none⟩ (.slice (some ⟨g6, 0, none⟩) (k + 1) cap6)).heap[tb]? = some (.cells #[x0, x1, .slice (some ⟨g6, 0, none⟩) (k + 1) cap6] 29 (0, 0)) ∧
    (w6.setCell ⟨tb, 2, none⟩ (.slice (some ⟨g6, 0, none⟩) (k + 1) cap6)).ownsRow (tb + 1) 29 3 (.slice (some ⟨g6, 0, none⟩) (k + 1) cap6) (k + 1) (xs ++ [p0, p1, p2]) ∧
    KidsAt (w6.setCell ⟨tb, 2, none⟩ (.slice (some ⟨g6, 0, none⟩) (k + 1) cap6)) (fun q => tb + 1 ≤ q ∧ q < (w6.setCell ⟨tb, 2, none⟩ (.slice (some ⟨g6, 0, none⟩) (k + 1) cap6)).heap.size ∧ some q ≠ (Value.slice (some ⟨g6, 0, none⟩) (k + 1) cap6).ownBlock) f (ts ++ [t']) (xs ++ [p0, p1, p2]) ∧
    Below tb wo (w6.setCell ⟨tb, 2, none⟩ (.slice (some ⟨g6, 0, none⟩) (k + 1) cap6)) := by
  have hwt := size_of_block HBT
  have hs5 : wo.heap.size ≤ w5.heap.size := HB5.size
  have hs6 : w5.heap.size + 1 ≤ w6.heap.size := by have := HG6.size; simpa using this
  have hl := HO.lt
  have old : ∀ q, q < wo.heap.size → some q ≠ (Value.slice ka k kc).ownBlock → w6.heap[q]? = wo.heap[q]? := fun q hq hne =>
    (HG6.block q (by rw [World.size_alloc]; omega) hne).trans ((Below.heap_alloc w5 o5 q (by omega)).trans (HB5.block q hq))
  have low : ∀ q, q ≤ tb → w6.heap[q]? = wo.heap[q]? := fun q hq => old q (by omega) (fun e => by have := hl q e.symm; omega)
  have hsz : (w6.setCell ⟨tb, 2, none⟩ (.slice (some ⟨g6, 0, none⟩) (k + 1) cap6)).heap.size = w6.heap.size := by simp [World.setCell]
  have oth : ∀ q, q ≠ tb → (w6.setCell ⟨tb, 2, none⟩ (.slice (some ⟨g6, 0, none⟩) (k + 1) cap6)).heap[q]? = w6.heap[q]? := fun q hq => heap_setCell_other _ _ _ _ (show q ≠ tb from hq)
  refine ⟨?_, ownsRow_setCell_below HO6 (by show tb < _; omega) _, ?_, ?_⟩
  · rw [heap_setCell_same _ _ _ _ _ _ ((low _ (by omega)).trans HBT)]
    rfl
  · refine KidsAt.snoc (HK.keep (fun q hq => (oth q (by omega)).trans (old q hq.2.1 hq.2.2)) (fun q hq => ⟨hq.1, by rw [hsz]; omega, fun e => ?_⟩)) ?_
    · refine HT5.keep (fun q hq => ?_) (fun q hq => ?_) f _ _
      · have h1 : wo.heap.size ≤ q := hq.1
        rw [oth q (by omega), HG6.block q (by rw [World.size_alloc]; omega) (fun e => by have := hl q e.symm; omega), Below.heap_alloc w5 o5 q hq.2]
      · have h1 : wo.heap.size ≤ q := hq.1
        have h2 := hq.2
        refine ⟨by omega, by rw [hsz]; omega, fun e => ?_⟩
        simp only [Value.ownBlock, Option.some.injEq] at e
        rcases HA6 with h | h
        · have := hl g6 h; omega
        · omega
    · simp only [Value.ownBlock, Option.some.injEq] at e
      rcases HA6 with h | h
      · exact hq.2.2 (by rw [h, e])
      · have := hq.2.1; omega
  · refine ⟨(HG6.os.trans HB5.os), (HG6.tape.trans HB5.tape), (HG6.output.trans HB5.output), by rw [hsz]; omega, fun q hq => ?_⟩
    rw [oth _ (by omega), low _ (by omega)]

/-- A term of which its size, and how deep it is, decide. -/
def Tall (n : Int) (T : Tr) : Prop := 100 ≤ T.size ∧ T.size ≤ 4000 ∧ (∀ x ∈ T.pre, Node x) ∧ (n ≤ 2 → T.size ≤ 3000 ∧ dep 120 T) ∧ (2 < n → ¬ (T.size ≤ 3000 ∧ dep 120 T))

/-- .. as it lies in its box. -/
def TallAt (w : World) (n : Int) (tb : Nat) (wx : World) : Prop :=
  ∃ (T : Tr) (y0 y1 : Int) (ya : Option Addr) (yl yc : Nat), wx.heap[tb]? = some (.cells #[.int .i64 y0, .int .i64 y1, .slice ya yl yc] 29 (0, 0)) ∧ TmAt wx wx.heap.size 130 T (.agg #[.int .i64 y0, .int .i64 y1, .slice ya yl yc]) ∧ Tall n T ∧ Below w.heap.size w wx

theorem tower_tall (n : Nat) : Tall n (tower (117 + n)) ∨ 5 ≤ n := by
  by_cases h : 5 ≤ n
  · exact Or.inr h
  · refine Or.inl ⟨by rw [tower_size]; omega, by rw [tower_size]; omega, tower_node _, fun h => ⟨by rw [tower_size]; omega, (tower_dep _ _).2 (by omega)⟩, fun h hc => ?_⟩
    have := (tower_dep _ _).1 hc.2
    omega

def leaf : Tr := ⟨7, 0, []⟩
theorem leaf_size : leaf.size = 1 := by rw [Tr.size_eq]; rfl
theorem leaf_node : Node leaf := ⟨by unfold leaf; simp only; omega, by unfold leaf; simp only; omega, by unfold I64 leaf; simp only; omega, by simp [leaf]⟩
theorem leaf_at (w : World) (D : Nat → Prop) : TmD w D 1 leaf (.agg #[.int .i64 7, .int .i64 0, .slice none 0 0]) :=
  ⟨none, 0, rfl, by unfold I64 leaf; simp only; omega, by unfold I64 leaf; simp only; omega, RowAt.nil (by unfold maxLen; omega)⟩

def fan (m : Nat) : Tr := ⟨5, 0, List.replicate m leaf⟩
theorem fan_size (m : Nat) : (fan m).size = m + 1 := by
  rw [Tr.size_eq]
  simp [fan, leaf_size]
  omega
theorem fan_node (m : Nat) (h : m ≤ 255) : ∀ x ∈ (fan m).pre, Node x := by
  intro x hx
  rw [Tr.pre_eq, List.mem_cons] at hx
  rcases hx with rfl | hx
  · exact ⟨by unfold fan; simp only; omega, by unfold fan; simp only; omega, by unfold I64 fan; simp only; omega, by simp [fan]; omega⟩
  · obtain ⟨l, hl, hx⟩ := List.mem_flatten.1 hx
    obtain ⟨y, hy, rfl⟩ := List.mem_map.1 hl
    have : y = leaf := List.eq_of_mem_replicate hy
    subst this
    rw [Tr.pre_eq] at hx
    simp [leaf] at hx
    subst hx
    exact leaf_node
theorem fan_dep (m d : Nat) : dep (d + 2) (fan m) := by
  intro k hk
  have : k = leaf := List.eq_of_mem_replicate hk
  subst this
  intro k hk
  simp [leaf] at hk

/-- What the rows of fans are. -/
def Fans (N kk : Nat) (ts : List Tr) : Prop := (ts.map Tr.size).sum + kk = N ∧ ts.length ≤ 13 ∧ (0 < kk → ts.length * 250 + kk = N) ∧ ∀ x ∈ ts, ∃ m, m ≤ 249 ∧ x = fan m

set_option maxRecDepth 20000 in
theorem Fans.more {N kk m : Nat} {ts : List Tr} (h : Fans N kk ts) (hN : N ≤ 3001) (hm : m + 1 = min kk 250) : Fans N (kk - (m + 1)) (ts ++ [fan m]) := by
  obtain ⟨h1, h2, h3, h4⟩ := h
  refine ⟨?_, ?_, fun h => ?_, fun x hx => ?_⟩
  · rw [List.map_append, List.sum_append]; simp [fan_size]; omega
  · rw [List.length_append, List.length_singleton]
    have := h3 (by omega)
    omega
  · rw [List.length_append, List.length_singleton]
    have := h3 (by omega)
    omega
  · rcases List.mem_append.1 hx with h | h
    · exact h4 x h
    · exact ⟨m, by omega, List.mem_singleton.1 h⟩

theorem Fans.tall {n : Nat} {ts : List Tr} (h : Fans (2997 + n) 0 ts) (hn : n < 5) : Tall n ⟨11, 0, ts⟩ := by
  obtain ⟨h1, h2, _, h4⟩ := h
  have hs : (⟨11, 0, ts⟩ : Tr).size = 2998 + n := by rw [Tr.size_eq]; simp only; omega
  refine ⟨by omega, by omega, fun x hx => ?_, fun h => ⟨by omega, fun k hk => ?_⟩, fun h hc => by omega⟩
  · rw [Tr.pre_eq, List.mem_cons] at hx
    rcases hx with rfl | hx
    · exact ⟨by simp only; omega, by simp only; omega, by unfold I64; simp only; omega, by simp only; omega⟩
    · obtain ⟨l, hl, hx⟩ := List.mem_flatten.1 hx
      obtain ⟨y, hy, rfl⟩ := List.mem_map.1 hl
      obtain ⟨m, hm, rfl⟩ := h4 y hy
      exact fan_node m (by omega) x hx
  · obtain ⟨m, _, rfl⟩ := h4 k hk
    exact fan_dep m 117

theorem agg_len {w : World} {D : Nat → Prop} {f : Nat} {t : Tr} {p0 p1 : Int} {pa : Option Addr} {pl pc : Nat} (h : TmD w D f t (.agg #[.int .i64 p0, .int .i64 p1, .slice pa pl pc])) : pl = t.kids.length := by
  cases f with
  | zero => exact h.elim
  | succ f =>
    obtain ⟨a, cap, h1, _⟩ := h
    simp only [Value.agg.injEq, Array.mk.injEq, List.cons.injEq, and_true, Value.int.injEq, Value.slice.injEq, true_and] at h1
    exact h1.2.2.2.1

theorem lf_take {w : World} {g n c m : Nat} {l : List Int} (h : LfK .u8 w (.slice (some ⟨g, 0, none⟩) n c) l) (hm : m ≤ l.length) : LfK .u8 w (.slice (some ⟨g, 0, none⟩) m c) (l.take m) := by
  rcases h with ⟨h0, _⟩ | ⟨ad, c', h0, h1, h2, hx⟩
  · cases h0
  · simp only [Value.slice.injEq, Option.some.injEq] at h0
    obtain ⟨rfl, _, rfl⟩ := h0
    have hl : (l.take m).length = m := by rw [List.length_take]; omega
    refine Or.inr ⟨_, c, by rw [hl], by omega, h2, fun i hi => ?_⟩
    rw [hx i (by omega), List.getElem_take]

theorem ReadAs.whole {n : Int} {T t : Tr} {er : Nat} (h : ReadAs (enc T) er t) (ht : Tall n T) : (n ≤ 2 → er = 0 ∧ t = T) ∧ (2 < n → er = 5 ∧ t.kids.length = 0) := by
  obtain ⟨_, _, hn, h1, h2⟩ := ht
  refine ⟨fun hle => ?_, fun hlt => ?_⟩
  · have hp := parse_enc T (h1 hle).2 hn (h1 hle).1
    rcases h with ⟨rfl, h⟩ | ⟨_, _, h, _⟩
    · rw [hp] at h; exact ⟨rfl, (Except.ok.inj h).symm⟩
    · rw [hp] at h; cases h
  · have hp := parse_over T (h2 hlt) hn
    rcases h with ⟨_, h⟩ | ⟨_, _, h, rfl⟩
    · rw [hp] at h; cases h
    · rw [hp] at h; exact ⟨(Except.error.inj h).symm, rfl⟩

theorem ReadAs.part {n : Int} {T t : Tr} {er m : Nat} (h : ReadAs ((enc T).take m) er t) (ht : Tall n T) (hlt : 2 < n) : t.kids.length = 0 := by
  obtain ⟨_, _, hn, _, h2⟩ := ht
  rcases h with ⟨_, h⟩ | ⟨_, _, h, rfl⟩
  · exact (parse_over_cut T t m (h2 hlt) hn (enc_range T hn) h).elim
  · rfl

#print axioms Fans.tall
end Go.Proofs.Ytafafeplciidhaa
