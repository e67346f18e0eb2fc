/- term.Shift. -/
import Derived.Test.YtjiecahopdaghabDoorSh
namespace Go.Proofs.YtjiecahopdaghabDoor
open Go.RowKit

/-- A term in new memory. -/
def NewTm (w : World) (f : Nat) (t : Tr) (e : Ending) (w' : World) : Prop := ∃ p0 p1 pa pl pc, e = .returned (.agg #[.int .i64 p0, .int .i64 p1, .slice pa pl pc]) ∧ TmD w' (fun k => w.heap.size ≤ k ∧ k < w'.heap.size) f t (.agg #[.int .i64 p0, .int .i64 p1, .slice pa pl pc]) ∧ Below w.heap.size w w'

theorem box_two {w w1 : World} {x0 x1 : Array Value} {T0 T1 : TypeId} (hb : Below ((w.alloc (.cells x0 T0)).alloc (.cells x1 T1)).heap.size ((w.alloc (.cells x0 T0)).alloc (.cells x1 T1)) w1) :
    w1.heap[w.heap.size]? = some (.cells x0 T0) ∧ w1.heap[w.heap.size + 1]? = some (.cells x1 T1) ∧ Below w.heap.size w w1 ∧ w.heap.size + 2 ≤ w1.heap.size := by
  have hsz : ((w.alloc (.cells x0 T0)).alloc (.cells x1 T1)).heap.size = w.heap.size + 2 := by simp
  have h0 := heap_alloc_new w (.cells x0 T0)
  have h1 := heap_alloc_new (w.alloc (.cells x0 T0)) (.cells x1 T1)
  rw [World.size_alloc] at h1
  refine ⟨?_, ?_, ?_, ?_⟩
  · rw [hb.block _ (by omega), Below.heap_alloc _ _ _ (by simp)]; exact h0
  · rw [hb.block _ (by omega)]; exact h1
  · exact ((Below.refl w.heap.size w).alloc (Nat.le_refl _) _).alloc (by simp) _ |>.trans (hb.mono (by omega))
  · have := hb.size; omega
/-- A term in new memory, behind a store into the answer's own box. -/
theorem tm_put3 {w w2 : World} {M c f : Nat} {t : Tr} {v p0 p1 p2 : Value} (h : TmD w2 (fun q => M ≤ q ∧ q < w2.heap.size) f t v) (hM : w.heap.size ≤ M) (hc : c < M) :
    TmD (((w2.setCell ⟨c, 0, none⟩ p0).setCell ⟨c, 1, none⟩ p1).setCell ⟨c, 2, none⟩ p2) (fun q => w.heap.size ≤ q ∧ q < (((w2.setCell ⟨c, 0, none⟩ p0).setCell ⟨c, 1, none⟩ p1).setCell ⟨c, 2, none⟩ p2).heap.size) f t v := by
  have hsz : (((w2.setCell ⟨c, 0, none⟩ p0).setCell ⟨c, 1, none⟩ p1).setCell ⟨c, 2, none⟩ p2).heap.size = w2.heap.size := by simp [World.setCell]
  refine h.keep (fun q hq => ?_) (fun q hq => ⟨by omega, by rw [hsz]; exact hq.2⟩) f t v
  rw [heap_setCell_other _ _ _ _ (show q ≠ c by omega), heap_setCell_other _ _ _ _ (show q ≠ c by omega), heap_setCell_other _ _ _ _ (show q ≠ c by omega)]

end Go.Proofs.YtjiecahopdaghabDoor
