/- What a reading answers, in one form; rows of bytes as they lie in memory. -/
import Derived.Test.YtafafeplciidhaaUn
import Derived.Test.YtafafeplciidhaaRv
import Derived.Test.YtafafeplciidhaaMk
import Derived.Test.YtafafeplciidhaaQp
import Derived.Test.YtafafeplciidhaaRb
import Derived.Test.YtafafeplciidhaaPm
import Derived.Test.YtafafeplciidhaaRq
import Derived.Test.YtafafeplciidhaaPc
namespace Go.Proofs.Ytafafeplciidhaa
open Go.RowKit

theorem left_of {w : World} {g n : Nat} {l : List Int} (h : w.heap[g]? = some (.cells (bys l).toArray 5 (0, 0))) (hn : l.length = n) (hl : n ≤ maxLen) : LeftAt w (fun k => k < w.heap.size) (.slice (some ⟨g, 0, none⟩) n n) l := by
  subst hn
  refine ⟨_, _, rfl, Nat.le_refl _, hl, fun _ => ⟨g, 0, rfl, size_of_block h, fun i hi => ?_⟩⟩
  rw [cell_of_block h]
  simp [bys, hi]

theorem own_none (w5 : World) (o : Obj) : ((w5.alloc o).alloc (.cells #[] 5)).ownsRow (w5.heap.size + 1) 5 1 (.slice (some ⟨w5.heap.size + 1, 0, none⟩) 0 0) 0 [] := by
  have h := heap_alloc_new (w5.alloc o) (.cells #[] 5)
  rw [World.size_alloc] at h
  exact ⟨rfl, Or.inr ⟨w5.heap.size + 1, 0, #[], rfl, Nat.le_refl _, h, Nat.le_refl _, Nat.zero_le _, rfl, rfl⟩⟩

theorem left_own {w : World} {base n : Nat} {v : Value} {l : List Int} {xs : List Value} (h : w.ownsRow base 5 1 v n xs) (hn : n = l.length) (hx : xs = bys l) : LeftAt w (fun k => k < w.heap.size) v l := by
  subst hn hx
  obtain ⟨a, cap, rfl, h1, h2⟩ := owns_form h
  refine ⟨a, cap, rfl, h1, h2, fun hne => ?_⟩
  rcases h.2 with ⟨_, h0⟩ | ⟨g, cap', cur, hv, hg, hh, hc1, hc2, hcs, htk⟩
  · exact absurd (List.eq_nil_of_length_eq_zero h0) hne
  · simp only [Value.slice.injEq] at hv
    obtain ⟨rfl, _, rfl⟩ := hv
    refine ⟨g, 0, rfl, size_of_block hh, fun i hi => ?_⟩
    have := h.cells (g := g) rfl i (.int .u8 l[i]) (by simp [bys, hi])
    rwa [Addr.add_lit] at this

/-- A block that holds these bytes, whatever else is there. -/
def Bl (blk : Obj) (g : Nat) (l : List Int) : Prop := ∀ W : World, W.heap[g]? = some blk → ∀ i, i < l.length → W.cell? ⟨g, i, none⟩ = some (.int .u8 (l.getD i 0))

theorem own_blk {w : World} {base n : Nat} {v : Value} {l : List Int} (h : w.ownsRow base 5 1 v (n * 10) (bys l)) (hp : 1 ≤ n) : ∃ g c blk, v = .slice (some ⟨g, 0, none⟩) (n * 10) c ∧ w.heap[g]? = some blk ∧ Bl blk g l := by
  rcases h.2 with ⟨_, h0⟩ | ⟨g, cap', cur, hv, hg, hh, hc1, hc2, hcs, htk⟩
  · omega
  · refine ⟨g, cap', _, hv, hh, fun W hW i hi => ?_⟩
    have h1 : w.cell? ⟨g, i, none⟩ = some (.int .u8 l[i]) := by
      subst hv
      have := h.cells (g := g) rfl i (.int .u8 l[i]) (by simp [bys, hi])
      rw [Addr.add_lit, Nat.zero_add] at this
      exact this
    rw [World.cell?_of_block (w := w) (w' := W) (a := ⟨g, i, none⟩) (hW.trans hh.symm), h1]
    simp [List.getD, hi]

theorem conv_blk {w : World} {g n c : Nat} {blk : Obj} {l : List Int} (hg : w.heap[g]? = some blk) (hb : Bl blk g l) (hn : l.length = n) : (convert 32 9 (.slice (some ⟨g, 0, none⟩) n c)).run Try.prog w = .ok (.string (strOfNums l)) w := by
  refine run_convert_bytes_arg w 32 5 Try.underlying32 Try.underlying5 g 0 n c l hn (fun i hi => ?_) 9 Try.underlying9
  rw [Nat.zero_add]
  exact hb w hg i (by omega)

theorem conv_len {w w' : World} {g n : Nat} {l : List Int} (hg : w.heap[g]? = some (.cells (bys l).toArray 5 (0, 0))) (hn : l.length = n) (hb : Below w.heap.size w w') :
    (convert 32 9 (.slice (some ⟨g, 0, none⟩) n n)).run Try.prog w' = .ok (.string (strOfNums l)) w' := by subst hn; exact conv_any hg hb

/-- How bytes are read: as a term, or with an error and no term. -/
def ReadAs (l : List Int) (er : Nat) (t : Tr) : Prop := (er = 0 ∧ parseP l = .ok t) ∨ (0 < er ∧ er < 100 ∧ parseP l = .error er ∧ t = ⟨0, 0, []⟩)

theorem ReadAs.one {l : List Int} {er er' : Nat} {t t' : Tr} (h : ReadAs l er t) (h' : ReadAs l er' t') : er' = er ∧ t' = t := by
  rcases h with ⟨rfl, h⟩ | ⟨_, _, h, rfl⟩ <;> rcases h' with ⟨rfl, h'⟩ | ⟨_, _, h', rfl⟩
  · rw [h] at h'; exact ⟨rfl, (Except.ok.inj h').symm⟩
  · rw [h] at h'; cases h'
  · rw [h] at h'; cases h'
  · rw [h] at h'; exact ⟨(Except.error.inj h').symm, rfl⟩

theorem ReadAs.lt {l : List Int} {er : Nat} {t : Tr} (h : ReadAs l er t) : er < 100 := by
  rcases h with ⟨rfl, _⟩ | ⟨_, h, _⟩ <;> omega

theorem out_of {l : List Int} {w w' : World} {e : Ending} (h : ParseOut l w e w') : ∃ (er : Nat) (t : Tr) (p0 p1 : Int) (pa : Option Addr) (pl pc : Nat), e = .returned (.tuple #[.agg #[.int .i64 p0, .int .i64 p1, .slice pa pl pc], .int .i64 er]) ∧
    ReadAs l er t ∧ TmAt w' w'.heap.size 120 t (.agg #[.int .i64 p0, .int .i64 p1, .slice pa pl pc]) ∧ Below w.heap.size w w' := by
  rcases h with ⟨er, h1, h2, h3, rfl, hb⟩ | ⟨t, h1, p0, p1, pa, pl, pc, rfl, ht, hb⟩
  · exact ⟨er, ⟨0, 0, []⟩, 0, 0, none, 0, 0, rfl, Or.inr ⟨h2, h3, h1, rfl⟩, ⟨none, 0, rfl, by unfold I64; simp only; omega, by unfold I64; simp only; omega, RowAt.nil (by unfold maxLen; omega)⟩, hb⟩
  · exact ⟨0, t, p0, p1, pa, pl, pc, rfl, Or.inl ⟨rfl, h1⟩, TmD.keep (fun _ _ => rfl) (fun k hk => hk.2) _ _ _ ht, hb⟩

#print axioms out_of
end Go.Proofs.Ytafafeplciidhaa
