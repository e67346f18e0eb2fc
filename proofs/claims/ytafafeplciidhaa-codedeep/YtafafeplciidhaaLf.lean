/- Rows of numbers that came in: none, or at any address; and how such an argument is opened. -/
import Derived.Test.YtafafeplciidhaaPo
import Derived.Test.YtafafeplciidhaaOp
import Derived.Laws.OwnMore
import Derived.Laws.AppendOwnNone
namespace Go.Proofs.Ytafafeplciidhaa
open Go.RowKit Go.ChangeShapes Go.WideShapes Go.ChangeAt

/-- A row of numbers lies in a value. -/
def LfK (k : IntKind) (w : World) (v : Value) (l : List Int) : Prop :=
  (v = .slice none 0 0 ∧ l = []) ∨ ∃ (ad : Addr) (c : Nat), v = .slice (some ad) l.length c ∧ l.length ≤ c ∧ c ≤ maxLen ∧ ∀ (i : Nat) (h : i < l.length), w.cell? (ad.add i) = some (.int k l[i])

theorem LfK.lt {k : IntKind} {w : World} {ad : Addr} {l : List Int} (hx : ∀ (i : Nat) (h : i < l.length), w.cell? (ad.add i) = some (.int k l[i])) {i : Nat} (h : i < l.length) : (ad.add i).block < w.heap.size :=
  World.block_lt_of_cell? w _ (hx i h)

theorem LfK.keep {k : IntKind} {w w' : World} {v : Value} {l : List Int} (h : LfK k w v l) (hb : Below w.heap.size w w') : LfK k w' v l := by
  rcases h with h | ⟨ad, c, rfl, h1, h2, hx⟩
  · exact Or.inl h
  · exact Or.inr ⟨ad, c, rfl, h1, h2, fun i hi => (hb.cell (LfK.lt hx hi)).trans (hx i hi)⟩

theorem LfK.left {w : World} {v : Value} {l : List Int} (h : LfK .u8 w v l) : LeftAt w (fun k => k < w.heap.size) v l := by
  rcases h with ⟨rfl, rfl⟩ | ⟨ad, c, rfl, h1, h2, hx⟩
  · exact ⟨none, 0, rfl, Nat.le_refl _, by unfold maxLen; omega, fun h => absurd rfl h⟩
  · refine ⟨some ad, c, rfl, h1, h2, fun hne => ?_⟩
    have hpos : 0 < l.length := by cases l with | nil => exact absurd rfl hne | cons => simp
    have h0 := hx 0 hpos
    obtain ⟨bl, off, sp⟩ := ad
    cases sp with
    | none => exact ⟨bl, off, rfl, LfK.lt hx hpos, fun i hi => by have := hx i hi; rwa [Addr.add_lit] at this⟩
    | some _ => simp [World.cell?, Addr.add] at h0; split at h0 <;> simp at h0

theorem LfK.news {w : World} {ad : Addr} {l : List Int} (hx : ∀ (i : Nat) (h : i < l.length), w.cell? (ad.add i) = some (.int .u8 l[i])) : ∀ j u, (bys l)[j]? = some u → w.cell? (ad.add j) = some u := by
  intro j u hj
  unfold bys at hj
  rw [List.getElem?_map] at hj
  obtain ⟨x, hx1, rfl⟩ := Option.map_eq_some_iff.1 hj
  obtain ⟨hlt, rfl⟩ := List.getElem?_eq_some_iff.1 hx1
  exact hx j hlt

theorem lf_own {w : World} {base n : Nat} {v : Value} {l : List Int} {xs : List Value} (h : w.ownsRow base 5 1 v n xs) (hn : n = l.length) (hx : xs = bys l) : LfK .u8 w v l := by
  subst hn hx
  rcases h.2 with ⟨h1, h0⟩ | ⟨g, cap', cur, hv, hg, hh, hc1, hc2, hcs, htk⟩
  · exact Or.inl ⟨h1, List.eq_nil_of_length_eq_zero h0⟩
  · subst hv
    exact Or.inr ⟨_, _, rfl, hc1, hc2, fun i hi => h.cells (g := g) rfl i (.int .u8 l[i]) (by simp [bys, hi])⟩

/-- The empty row, just made. -/
theorem own_empty (w : World) : (w.alloc (.cells #[] 5)).ownsRow w.heap.size 5 1 (.slice (some ⟨w.heap.size, 0, none⟩) 0 0) 0 [] :=
  ⟨rfl, Or.inr ⟨w.heap.size, 0, #[], rfl, Nat.le_refl _, heap_alloc_new w _, Nat.le_refl _, Nat.zero_le _, rfl, rfl⟩⟩

theorem row_in {H : Type} {enc : TypeId × Value → H} {W : World} {v : Value} {d : DataW H} {p : List MemPlace} {r : Reach} {base : Nat} {t e : TypeId} {k : IntKind} (ht : Try.prog.underlying t = some (.slice e)) (he : Try.prog.underlying e = some (.int k)) (hc : Try.prog.cellsOf e = 1)
    (hv : Value.okWide Try.prog W r base t v) (h : DataW.Trod enc Try.prog W 0 (fun _ => true) true t v d p) : ∃ l, LfK k W v l ∧ ∀ x ∈ l, (Lit.int k x).wf = true := by
  obtain ⟨a, len, cap, rfl⟩ := okWide_slice ht hv
  obtain ⟨fuel, hf⟩ := h
  rcases Deep.open_slice1 ht hc hf with ⟨h0, _⟩ | ⟨ad, len', cap', m, n, V, D, Pl, h0, _, hl, hm, hmm, _, hx⟩
  · simp [Value.cells] at h0
    obtain ⟨rfl, rfl, rfl⟩ := h0
    exact ⟨[], Or.inl ⟨rfl, rfl⟩, fun x hx => by cases hx⟩
  · simp [Value.cells] at h0
    obtain ⟨rfl, rfl, rfl⟩ := h0
    have key : ∀ i, i < len → ∃ x : Int, W.cell? (ad.add i) = some (.int k x) ∧ (Lit.int k x).wf = true := by
      intro i hi
      obtain ⟨h1, h2⟩ := hx i (by rw [hmm]; simp; omega)
      obtain ⟨x, e1, _, w1⟩ := DataW.trod_int he h2
      simp at e1
      rw [e1] at h1
      exact ⟨x, h1, w1⟩
    obtain ⟨T, hT⟩ := Deep.choose_lt (α := Int) (p := fun i x => W.cell? (ad.add i) = some (.int k x) ∧ (Lit.int k x).wf = true) key
    refine ⟨(List.range len).map T, Or.inr ⟨ad, cap, by simp, by simpa using hl, hm, fun i hi => ?_⟩, fun x hx => ?_⟩
    · simp only [List.getElem_map, List.getElem_range]
      exact (hT i (by simpa using hi)).1
    · obtain ⟨i, hi, rfl⟩ := List.mem_map.1 hx
      exact (hT i (List.mem_range.1 hi)).2
#print axioms row_in
end Go.Proofs.Ytafafeplciidhaa
