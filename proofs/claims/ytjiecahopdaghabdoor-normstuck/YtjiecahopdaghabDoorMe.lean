/- The meter; Size, fits. -/
import Derived.Test.YtjiecahopdaghabDoorTb
import Derived.Test.YtjiecahopdaghabDoorSz
namespace Go.Proofs.YtjiecahopdaghabDoor
open Go.RowKit

theorem put1 {w : World} {mb : Nat} {x0 : Value} {T : TypeId} (h : w.heap[mb]? = some (.cells #[x0] T (0, 0))) (x : Value) : (w.setCell ⟨mb, 0, none⟩ x).heap[mb]? = some (.cells #[x] T (0, 0)) := by
  rw [heap_setCell_same _ _ _ _ _ _ h]; rfl
theorem put1_alloc {w : World} {mb : Nat} {x0 : Value} {T : TypeId} (h : w.heap[mb]? = some (.cells #[x0] T (0, 0))) (x : Value) (o : Obj) : ((w.setCell ⟨mb, 0, none⟩ x).alloc o).heap[mb]? = some (.cells #[x] T (0, 0)) := by
  rw [Below.heap_alloc _ o mb (by have := size_of_block h; simpa [World.setCell] using this)]; exact put1 h x

end Go.Proofs.YtjiecahopdaghabDoor
