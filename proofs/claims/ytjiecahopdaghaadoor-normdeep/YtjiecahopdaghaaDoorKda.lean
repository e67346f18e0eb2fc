/- What a term that doubles comes to. -/
import Derived.Test.YtjiecahopdaghaaDoorKb
namespace Go.Proofs.YtjiecahopdaghaaDoor
open Go.RowKit

abbrev deepT (n : Nat) : Tr := ⟨13, 0, [⟨14, 0, []⟩, ⟨15, 0, []⟩, ⟨16, 0, [varT 0, varT 0]⟩, numT n]⟩
def treeD : Nat → Tr
  | 0 => ⟨15, 0, []⟩
  | n + 1 => ⟨16, 0, [treeD n, treeD n]⟩
theorem treeD_size : ∀ n, (treeD n).size + 1 = 2 ^ (n + 1)
  | 0 => by simp [treeD, Tr.size]
  | n + 1 => by
    have := treeD_size n
    simp only [treeD, Tr.size, List.map_cons, List.map_nil, List.sum_cons, List.sum_nil]
    rw [Nat.pow_succ]
    omega
/-- Is it refused? -/
def deepNo (g n : Nat) : Bool := match normM g (deepT n) with
  | some r => decide (r.2 = 5)
  | none => false
set_option maxRecDepth 20000
set_option maxHeartbeats 8000000
theorem fam_deep : (allN 11 fun n => normIs 1000 (deepT n) (treeD n)) = true := by kernel_rfl
#print axioms fam_deep
end Go.Proofs.YtjiecahopdaghaaDoor
