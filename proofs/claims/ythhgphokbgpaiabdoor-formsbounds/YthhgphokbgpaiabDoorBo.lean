/- The variable that holds such a form. -/
import Derived.Test.YthhgphokbgpaiabDoorBn
namespace Go.Proofs.YthhgphokbgpaiabDoor
open Go.RowKit

def WrapAt (b : Fm) (w : World) (fb : Nat) (wr : World) (k : Nat) : Prop :=
  ∃ la lc, wr.heap[fb]? = some (.cells #[.int .i64 (wrapF b k).kind, .int .i64 (wrapF b k).n, .string ⟨⟨(wrapF b k).s⟩⟩, .slice la (wrapF b k).l.length lc] 25 (0, 0)) ∧
    FmD wr (fun q => fb < q ∧ q < wr.heap.size) (k + 1) (wrapF b k) (.agg #[.int .i64 (wrapF b k).kind, .int .i64 (wrapF b k).n, .string ⟨⟨(wrapF b k).s⟩⟩, .slice la (wrapF b k).l.length lc]) ∧ Below w.heap.size w wr ∧ w.heap.size ≤ fb

theorem WrapAt.start {b : Fm} {w w1 : World} (hk : I64 b.kind) (hn : I64 b.n) (hl : b.l = []) (hb : Below w.heap.size w w1) : WrapAt b w w1.heap.size (w1.alloc (.cells #[.int .i64 b.kind, .int .i64 b.n, .string ⟨⟨b.s⟩⟩, .slice none 0 0] 25)) 0 := by
  refine ⟨none, 0, ?_, ?_, hb.alloc hb.size _, hb.size⟩
  · show _ = some (Obj.cells #[.int .i64 b.kind, .int .i64 b.n, .string ⟨⟨b.s⟩⟩, .slice none b.l.length 0] 25 (0, 0))
    rw [hl]; exact heap_alloc_new w1 _
  · exact ⟨none, 0, rfl, hk, hn, by show RowAt _ _ _ b.l _ _; rw [hl]; exact RowAt.nil (by unfold maxLen; omega)⟩

theorem eight {w : World} {g : Nat} {x0 x1 x2 x3 y0 y1 y2 y3 : Value} {T : TypeId} {fr : Nat × Nat} (h : w.heap[g]? = some (.cells #[x0, x1, x2, x3, y0, y1, y2, y3] T fr)) :
    (w.cell? ⟨g, 0, none⟩ = some x0 ∧ w.cell? ⟨g, 1, none⟩ = some x1 ∧ w.cell? ⟨g, 2, none⟩ = some x2 ∧ w.cell? ⟨g, 3, none⟩ = some x3) ∧ w.cell? ⟨g, 4, none⟩ = some y0 ∧ w.cell? ⟨g, 5, none⟩ = some y1 ∧ w.cell? ⟨g, 6, none⟩ = some y2 ∧ w.cell? ⟨g, 7, none⟩ = some y3 :=
  ⟨⟨(cell_of_block h 0).trans rfl, (cell_of_block h 1).trans rfl, (cell_of_block h 2).trans rfl, (cell_of_block h 3).trans rfl⟩, (cell_of_block h 4).trans rfl, (cell_of_block h 5).trans rfl, (cell_of_block h 6).trans rfl, (cell_of_block h 7).trans rfl⟩

theorem set4_zero (w : World) (g : Nat) (y0 y1 y2 y3 : Value) : set4 w g 0 y0 y1 y2 y3 = (((w.setCell ⟨g, 0, none⟩ y0).setCell ⟨g, 1, none⟩ y1).setCell ⟨g, 2, none⟩ y2).setCell ⟨g, 3, none⟩ y3 := rfl

theorem WrapAt.step {b : Fm} {w wr : World} {fb k lc : Nat} {la : Option Addr} (hb : wr.heap[fb]? = some (.cells #[.int .i64 (wrapF b k).kind, .int .i64 (wrapF b k).n, .string ⟨⟨(wrapF b k).s⟩⟩, .slice la (wrapF b k).l.length lc] 25 (0, 0)))
    (hf : FmD wr (fun q => fb < q ∧ q < wr.heap.size) (k + 1) (wrapF b k) (.agg #[.int .i64 (wrapF b k).kind, .int .i64 (wrapF b k).n, .string ⟨⟨(wrapF b k).s⟩⟩, .slice la (wrapF b k).l.length lc])) (hbl : Below w.heap.size w wr) (hw : w.heap.size ≤ fb) :
    WrapAt b w fb (((((wr.setCell ⟨fb, 0, none⟩ (.int .i64 3)).setCell ⟨fb, 1, none⟩ (.int .i64 0)).setCell ⟨fb, 2, none⟩ (.string ⟨#[]⟩)).setCell ⟨fb, 3, none⟩ (.slice (some ⟨wr.heap.size, 0, none⟩) 2 2)).alloc (.cells #[.int .i64 2, .int .i64 0, .string ⟨#[]⟩, .slice none 0 0, .int .i64 (wrapF b k).kind, .int .i64 (wrapF b k).n, .string ⟨⟨(wrapF b k).s⟩⟩, .slice la (wrapF b k).l.length lc] 25)) (k + 1) := by
  have hlt := size_of_block hb
  rw [← set4_zero]
  generalize hW4 : set4 wr fb 0 (.int .i64 3) (.int .i64 0) (.string ⟨#[]⟩) (.slice (some ⟨wr.heap.size, 0, none⟩) 2 2) = W4
  have hs4 : W4.heap.size = wr.heap.size := by rw [← hW4, set4_size]
  have ho4 : ∀ q, q ≠ fb → W4.heap[q]? = wr.heap[q]? := fun q h => by rw [← hW4]; exact set4_other _ _ _ _ _ _ _ _ h
  have hb4 : W4.heap[fb]? = some (.cells #[.int .i64 3, .int .i64 0, .string ⟨#[]⟩, .slice (some ⟨wr.heap.size, 0, none⟩) 2 2] 25 (0, 0)) := by
    rw [← hW4, heap_setCell_same _ _ _ _ _ _ (heap_setCell_same _ _ _ _ _ _ (heap_setCell_same _ _ _ _ _ _ (heap_setCell_same _ _ _ _ _ _ hb)))]
    rfl
  have e4 : W4.os = wr.os ∧ W4.tape = wr.tape ∧ W4.output = wr.output := by
    rw [← hW4]
    exact ⟨by rw [os_setCell, os_setCell, os_setCell, os_setCell], by rw [tape_setCell, tape_setCell, tape_setCell, tape_setCell], by rw [output_setCell, output_setCell, output_setCell, output_setCell]⟩
  clear hW4
  generalize hO : Obj.cells #[.int .i64 2, .int .i64 0, .string ⟨#[]⟩, .slice none 0 0, .int .i64 (wrapF b k).kind, .int .i64 (wrapF b k).n, .string ⟨⟨(wrapF b k).s⟩⟩, .slice la (wrapF b k).l.length lc] 25 = O
  have hnew : (W4.alloc O).heap[wr.heap.size]? = some O := by
    have := heap_alloc_new W4 O
    rwa [hs4] at this
  have hnew2 := hnew.trans (congrArg some hO.symm)
  have hoth : ∀ q, q ≠ fb → q < wr.heap.size → (W4.alloc O).heap[q]? = wr.heap[q]? := fun q h1 h2 => (Below.heap_alloc W4 _ q (by omega)).trans (ho4 q h1)
  have hsz : (W4.alloc O).heap.size = wr.heap.size + 1 := by rw [World.size_alloc, hs4]
  refine ⟨some ⟨wr.heap.size, 0, none⟩, 2, (Below.heap_alloc W4 _ fb (by omega)).trans hb4, ?_, ?_, hw⟩
  · refine ⟨some ⟨wr.heap.size, 0, none⟩, 2, rfl, by unfold I64; simp only [wrapF]; omega, by unfold I64; simp only [wrapF]; omega, Nat.le_refl _, by unfold maxLen; omega, fun _ => ⟨wr.heap.size, 0, rfl, ⟨hlt, by rw [hsz]; omega⟩, fun i hi => ?_⟩⟩
    obtain ⟨⟨d0, d1, d2, d3⟩, d4, d5, d6, d7⟩ := eight hnew2
    have hi2 : i = 0 ∨ i = 1 := by simp [wrapF] at hi; omega
    rcases hi2 with rfl | rfl
    · refine ⟨_, _, _, _, d0, d1, d2, d3, ?_⟩
      exact ⟨none, 0, rfl, by unfold I64; simp only [wrapF, List.getElem_cons_zero]; omega, by unfold I64; simp only [wrapF, List.getElem_cons_zero]; omega, RowAt.nil (by unfold maxLen; omega)⟩
    · refine ⟨_, _, _, _, d4, d5, d6, d7, ?_⟩
      exact hf.keep (fun q hq => hoth q (by omega) hq.2) (fun q hq => ⟨hq.1, by rw [hsz]; omega⟩) _ _ _
  · refine hbl.trans ⟨e4.1, e4.2.1, e4.2.2, by rw [hsz]; omega, fun q hq => ?_⟩
    have := hbl.size
    exact hoth q (by omega) (by omega)
#print axioms WrapAt.step
end Go.Proofs.YthhgphokbgpaiabDoor
