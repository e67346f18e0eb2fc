/- The rows that a walk has still to show: how they lie in memory, and what stays. -/
import Derived.Test.YtafafeplciidhaaTree
import Derived.Deep.AppendLies
namespace Go.Proofs.Ytafafeplciidhaa
open Go.RowKit

/-- A row of trees that is not empty, in a value. -/
def RowOk (w : World) (D : Nat → Prop) (B f : Nat) (p : List Tr × Value) : Prop :=
  p.1 ≠ [] ∧ ∃ a cap, p.2 = .slice a p.1.length cap ∧ RowAt w D (TmAt w B f) p.1 a cap

/-- All that is still to be shown. -/
def rem (st : List (List Tr × Value)) : List Tr := (st.map (fun p => (p.1.map Tr.pre).flatten)).flatten

theorem rem_cons (p : List Tr × Value) (st : List (List Tr × Value)) : rem (p :: st) = (p.1.map Tr.pre).flatten ++ rem st := by simp [rem]

/-- A row on top, if it is not empty. -/
def push (p : List Tr × Value) (st : List (List Tr × Value)) : List (List Tr × Value) := if p.1.length = 0 then st else p :: st

theorem rem_push (p : List Tr × Value) (st : List (List Tr × Value)) : rem (push p st) = (p.1.map Tr.pre).flatten ++ rem st := by
  unfold push
  split
  · rename_i h
    rw [List.eq_nil_of_length_eq_zero h]
    rfl
  · exact rem_cons p st

theorem push_length (p : List Tr × Value) (st : List (List Tr × Value)) : (push p st).length = st.length + (if p.1.length = 0 then 0 else 1) := by
  unfold push; split <;> simp

theorem push_snd (p : List Tr × Value) (st : List (List Tr × Value)) : ((push p st).map Prod.snd).reverse = (st.map Prod.snd).reverse ++ (if p.1.length = 0 then [] else [p.2]) := by
  unfold push; split <;> simp

theorem RowOk.keep {w w' : World} {D : Nat → Prop} {B f : Nat} {p : List Tr × Value} (h : RowOk w D B f p) (hD : ∀ k, D k → w'.heap[k]? = w.heap[k]?) (hB : ∀ k, k < B → D k) : RowOk w' D B f p := by
  obtain ⟨h1, a, cap, h2, h3⟩ := h
  exact ⟨h1, a, cap, h2, h3.imp hD (fun _ h => h) (fun t v ht => ht.keep (fun k hk => hD k (hB k hk)) (Nat.le_refl _) f t v)⟩

structure Stk (w : World) (base : Nat) (D : Nat → Prop) (B f : Nat) (rows : Value) (st : List (List Tr × Value)) : Prop where
  own : w.ownsRow base 27 1 rows st.length (st.map Prod.snd).reverse
  ok : ∀ p ∈ st, RowOk w D B f p

theorem owns_keep {w w' : World} {base : Nat} {e : TypeId} {size : Nat} {v : Value} {n : Nat} {xs : List Value} (h : w.ownsRow base e size v n xs) (hk : ∀ g, base ≤ g → g < w.heap.size → w'.heap[g]? = w.heap[g]?) : w'.ownsRow base e size v n xs := by
  obtain ⟨h1, h2⟩ := h
  refine ⟨h1, ?_⟩
  rcases h2 with h2 | ⟨g, cap, cur, hv, hg, hh, r⟩
  · exact Or.inl h2
  · exact Or.inr ⟨g, cap, cur, hv, hg, by rw [hk g hg (size_of_block hh)]; exact hh, r⟩

/-- The top row taken off the list of rows. -/
theorem owns_pop {w : World} {base g n rcap : Nat} {e : TypeId} {xs : List Value} {x : Value} (h : w.ownsRow base e 1 (.slice (some ⟨g, 0, none⟩) (n + 1) rcap) (n + 1) (xs ++ [x])) :
    w.ownsRow base e 1 (.slice (some ⟨g, 0, none⟩) n rcap) n xs ∧ w.cell? ⟨g, n, none⟩ = some x ∧ g < w.heap.size ∧ base ≤ g ∧ n + 1 ≤ rcap ∧ rcap ≤ maxLen := by
  obtain ⟨h1, h2⟩ := h
  have hx : xs.length = n := by simp at h1; exact h1
  rcases h2 with ⟨h2, _⟩ | ⟨g', cap, cur, hv, hg, hh, hn, hc, hs, ht⟩
  · cases h2
  · simp at hv
    obtain ⟨rfl, rfl⟩ := hv
    have ht' : cur.toList.take (n + 1) = xs ++ [x] := by simpa using ht
    refine ⟨⟨by simpa using hx, Or.inr ⟨g, rcap, cur, rfl, hg, hh, by omega, hc, hs, ?_⟩⟩, ?_, size_of_block hh, hg, hn, hc⟩
    · have := congrArg (List.take n) ht'
      rw [List.take_take, Nat.min_eq_left (by omega)] at this
      rw [Nat.mul_one, this, List.take_append_of_le_length (by omega), List.take_of_length_le (by omega)]
    · rw [cell_of_block hh]
      have h3 : (cur.toList.take (n + 1))[n]? = some x := by rw [ht', List.getElem?_append_right (by omega)]; simp [hx]
      rw [List.getElem?_take_of_lt (by omega)] at h3
      simpa using h3

/-- An empty list of rows has no length. -/
theorem owns_zero {w : World} {base : Nat} {e : TypeId} {v : Value} {xs : List Value} (h : w.ownsRow base e 1 v 0 xs) : ∃ a cap, v = .slice a 0 cap := by
  rcases h.2 with ⟨h, _⟩ | ⟨g, cap, cur, hv, _⟩
  · exact ⟨none, 0, h⟩
  · exact ⟨_, cap, hv⟩

theorem owns_succ {w : World} {base n : Nat} {e : TypeId} {v : Value} {xs : List Value} (h : w.ownsRow base e 1 v (n + 1) xs) : ∃ g cap, v = .slice (some ⟨g, 0, none⟩) (n + 1) cap := by
  rcases h.2 with ⟨_, h⟩ | ⟨g, cap, cur, hv, _⟩
  · cases h
  · exact ⟨g, cap, hv⟩

/-- What stands beside the row that has grown. -/
theorem grown_block {w w' : World} {v : Value} {base : Nat} {e : TypeId} {n : Nat} {xs : List Value} (hg : w.grownBy w' v.ownBlock) (h : w.ownsRow base e 1 v n xs) {k : Nat} (hk : k < w.heap.size) (hb : k < base) : w'.heap[k]? = w.heap[k]? :=
  hg.block k hk (fun e => by have := h.lt k e.symm; omega)
theorem rem_ge (st : List (List Tr × Value)) (h : ∀ p ∈ st, p.1 ≠ []) : st.length ≤ (rem st).length := by
  induction st with
  | nil => simp
  | cons p st ih =>
    rw [rem_cons, List.length_append, List.length_cons]
    have h1 := ih (fun q hq => h q (List.mem_cons_of_mem _ hq))
    have h2 : 1 ≤ ((p.1.map Tr.pre).flatten).length := by
      cases hp : p.1 with
      | nil => exact absurd hp (h p List.mem_cons_self)
      | cons t ts => rw [List.map_cons, List.flatten_cons, Tr.pre_eq]; simp
    omega

theorem rem_top (t : Tr) (ts : List Tr) (v : Value) (st : List (List Tr × Value)) (u u' : Value) :
    rem ((t :: ts, v) :: st) = t :: rem (push (t.kids, u) (push (ts, u') st)) := by
  rw [rem_cons, rem_push, rem_push]
  simp only [List.map_cons, List.flatten_cons]
  rw [Tr.pre_eq]
  simp

theorem RowOk.of {w : World} {D : Nat → Prop} {B f : Nat} {ts : List Tr} {a : Option Addr} {cap : Nat} (h : RowAt w D (TmAt w B f) ts a cap) (hne : ts ≠ []) : RowOk w D B f (ts, .slice a ts.length cap) := ⟨hne, a, cap, rfl, h⟩

theorem push_ok {w : World} {D : Nat → Prop} {B f : Nat} {p : List Tr × Value} {st : List (List Tr × Value)} (hp : p.1 ≠ [] → RowOk w D B f p) (h : ∀ q ∈ st, RowOk w D B f q) : ∀ q ∈ push p st, RowOk w D B f q := by
  unfold push
  split
  · exact h
  · rename_i hl
    intro q hq
    rcases List.mem_cons.1 hq with rfl | hq
    · exact hp (fun e => hl (by simp [e]))
    · exact h q hq

/-- The list of rows with which a walk begins. -/
theorem stk_start {w : World} {B f cap : Nat} {t : Tr} {a : Option Addr} {o : Obj} (h : TmAt w B f t (.agg #[.int .i64 t.op, .int .i64 t.n, .slice a t.kids.length cap])) (hB : B ≤ w.heap.size) :
    Stk (((w.alloc o).alloc (.cells #[.int .i64 t.op, .int .i64 t.n, .slice a t.kids.length cap] 29)).alloc (.cells #[.slice (some ⟨w.heap.size + 1, 0, none⟩) 1 1] 27))
      (w.heap.size + 2) (fun k => k < B ∨ k = w.heap.size + 1) B f (.slice (some ⟨w.heap.size + 1 + 1, 0, none⟩) 1 1) [([t], .slice (some ⟨w.heap.size + 1, 0, none⟩) 1 1)] := by
  have hz : ((w.alloc o).alloc (.cells #[.int .i64 t.op, .int .i64 t.n, .slice a t.kids.length cap] 29)).heap.size = w.heap.size + 1 + 1 := by simp
  have hb : (((w.alloc o).alloc (.cells #[.int .i64 t.op, .int .i64 t.n, .slice a t.kids.length cap] 29)).alloc (.cells #[.slice (some ⟨w.heap.size + 1, 0, none⟩) 1 1] 27)).heap[w.heap.size + 1]? = some (.cells #[.int .i64 t.op, .int .i64 t.n, .slice a t.kids.length cap] 29 (0, 0)) := by
    rw [Below.heap_alloc _ _ _ (by rw [hz]; omega)]
    have := heap_alloc_new (w.alloc o) (.cells #[.int .i64 t.op, .int .i64 t.n, .slice a t.kids.length cap] 29)
    simpa using this
  refine ⟨⟨by simp, Or.inr ⟨w.heap.size + 1 + 1, 1, #[.slice (some ⟨w.heap.size + 1, 0, none⟩) 1 1], rfl, by omega, ?_, by simp, by unfold maxLen; omega, by simp, by simp⟩⟩, ?_⟩
  · have := heap_alloc_new ((w.alloc o).alloc (.cells #[.int .i64 t.op, .int .i64 t.n, .slice a t.kids.length cap] 29)) (.cells #[.slice (some ⟨w.heap.size + 1, 0, none⟩) 1 1] 27)
    rw [hz] at this
    exact this
  · intro p hp
    rw [List.mem_singleton] at hp
    subst hp
    refine ⟨by simp, some ⟨w.heap.size + 1, 0, none⟩, 1, rfl, by simp, by unfold maxLen; omega, fun _ => ⟨w.heap.size + 1, 0, rfl, Or.inr rfl, fun i hi => ?_⟩⟩
    have hi0 : i = 0 := by simpa using hi
    subst hi0
    refine ⟨_, _, _, by rw [cell_of_block hb]; rfl, by rw [cell_of_block hb]; rfl, by rw [cell_of_block hb]; rfl, ?_⟩
    refine h.keep (fun k hk => ?_) (Nat.le_refl _) f _ _
    rw [Below.heap_alloc _ _ _ (by rw [hz]; omega), Below.heap_alloc _ _ _ (by simp; omega), Below.heap_alloc _ _ _ (by omega)]
#print axioms grown_block
end Go.Proofs.Ytafafeplciidhaa
