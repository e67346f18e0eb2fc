/- What waits for a variable. -/
import Derived.Test.YtjiecahopdaghabDoorKb
namespace Go.Proofs.YtjiecahopdaghabDoor
open Go.RowKit

abbrev sucT (t : Tr) : Tr := ⟨12, 0, [t]⟩
abbrev fstT (t : Tr) : Tr := ⟨8, 0, [t]⟩
abbrev splT (t : Tr) : Tr := ⟨30, 0, [t]⟩
set_option maxRecDepth 20000
set_option maxHeartbeats 8000000
theorem fam_s1 : (allN 5 fun v => allN 8 fun n => allN 8 fun m => normIs 1000 (plusT (varT v) (plusT (numT n) (numT m))) (plusT (varT v) (numT (n + m)))) = true := by kernel_rfl
theorem fam_s2 : (allN 5 fun v => allN 8 fun m => normIs 1000 (plusT (varT v) (numT m)) (plusT (varT v) (numT m))) = true := by kernel_rfl
theorem fam_s3 : (allN 5 fun v => allN 8 fun m => normIs 1000 (plusT (sucT (varT v)) (numT m)) (sucT (plusT (varT v) (numT m)))) = true := by kernel_rfl
theorem fam_s4 : (allN 5 fun v => allN 8 fun n => allN 8 fun m => normIs 1000 (appT (varT v) (plusT (numT n) (numT m))) (appT (varT v) (numT (n + m)))) = true := by kernel_rfl
theorem fam_s5 : (allN 5 fun v => normIs 1000 (fstT (varT v)) (fstT (varT v)) && normIs 1000 (splT (varT v)) (splT (varT v))) = true := by kernel_rfl
theorem norm_s1 {n m v : Nat} (hn : n < 8) (hm : m < 8) (hv : v < 5) : normM 1000 (plusT (varT v) (plusT (numT n) (numT m))) = some (plusT (varT v) (numT (n + m)), 0) := normIs_eq (allN_of (allN_of (allN_of fam_s1 hv) hn) hm)
theorem norm_s2 {m v : Nat} (hm : m < 8) (hv : v < 5) : normM 1000 (plusT (varT v) (numT m)) = some (plusT (varT v) (numT m), 0) := normIs_eq (allN_of (allN_of fam_s2 hv) hm)
theorem norm_s3 {m v : Nat} (hm : m < 8) (hv : v < 5) : normM 1000 (plusT (sucT (varT v)) (numT m)) = some (sucT (plusT (varT v) (numT m)), 0) := normIs_eq (allN_of (allN_of fam_s3 hv) hm)
theorem norm_s4 {n m v : Nat} (hn : n < 8) (hm : m < 8) (hv : v < 5) : normM 1000 (appT (varT v) (plusT (numT n) (numT m))) = some (appT (varT v) (numT (n + m)), 0) := normIs_eq (allN_of (allN_of (allN_of fam_s4 hv) hn) hm)
theorem norm_s5 {v : Nat} (hv : v < 5) : normM 1000 (fstT (varT v)) = some (fstT (varT v), 0) := normIs_eq (Bool.and_eq_true_iff.1 (allN_of fam_s5 hv)).1
theorem norm_s6 {v : Nat} (hv : v < 5) : normM 1000 (splT (varT v)) = some (splT (varT v), 0) := normIs_eq (Bool.and_eq_true_iff.1 (allN_of fam_s5 hv)).2
#print axioms norm_s6
end Go.Proofs.YtjiecahopdaghabDoor
