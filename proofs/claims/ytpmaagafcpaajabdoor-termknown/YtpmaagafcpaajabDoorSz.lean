/- Size: how many nodes a term has. -/
import Derived.Test.YtpmaagafcpaajabDoorWa
namespace Go.Proofs.YtpmaagafcpaajabDoor
open Go.RowKit

/-- One, and the sizes of the first k kids. -/
def szTo (t : Tr) (k : Nat) : Nat := 1 + ((t.kids.take k).map Tr.size).sum
theorem szTo_succ (t : Tr) (k : Nat) (hk : k < t.kids.length) : szTo t (k + 1) = szTo t k + (t.kids[k]).size := by
  unfold szTo
  rw [List.take_succ_eq_append_getElem hk]
  simp only [List.map_append, List.sum_append, List.map_cons, List.map_nil, List.sum_cons, List.sum_nil]
  omega
theorem szTo_end (t : Tr) : szTo t t.kids.length = t.size := by unfold szTo; rw [List.take_length, Tr.size_eq]
theorem szTo_le (t : Tr) (k : Nat) : szTo t k ≤ t.size := by
  have h1 := sum_take_le (t.kids.map Tr.size) k
  rw [← List.map_take] at h1
  rw [Tr.size_eq]
  unfold szTo
  omega

end Go.Proofs.YtpmaagafcpaajabDoor
