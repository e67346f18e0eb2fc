/- What numbers' sums and products come to. -/
import Derived.Test.YtjiecahopdaghaaDoorKb
namespace Go.Proofs.YtjiecahopdaghaaDoor
open Go.RowKit

set_option maxRecDepth 20000
theorem fam_plus : (allN 10 fun n => allN 10 fun m => normIs 1000 (plusT (numT n) (numT m)) (numT (n + m))) = true := by kernel_rfl
theorem fam_times : (allN 10 fun n => allN 10 fun m => normIs 1000 (timesT (numT n) (numT m)) (numT (n * m))) = true := by kernel_rfl
theorem fam_lam : (allN 10 fun n => allN 10 fun m => normIs 1000 (lamT (timesT (numT n) (numT m))) (lamT (numT (n * m)))) = true := by kernel_rfl
theorem fam_app : (allN 10 fun n => normIs 1000 (appT (lamT (plusT (varT 0) (varT 0))) (numT n)) (numT (2 * n))) = true := by kernel_rfl
theorem norm_plus {n m : Nat} (hn : n < 10) (hm : m < 10) : normM 1000 (plusT (numT n) (numT m)) = some (numT (n + m), 0) := normIs_eq (allN_of (allN_of fam_plus hn) hm)
theorem norm_times {n m : Nat} (hn : n < 10) (hm : m < 10) : normM 1000 (timesT (numT n) (numT m)) = some (numT (n * m), 0) := normIs_eq (allN_of (allN_of fam_times hn) hm)
theorem norm_lam {n m : Nat} (hn : n < 10) (hm : m < 10) : normM 1000 (lamT (timesT (numT n) (numT m))) = some (lamT (numT (n * m)), 0) := normIs_eq (allN_of (allN_of fam_lam hn) hm)
theorem norm_app {n : Nat} (hn : n < 10) : normM 1000 (appT (lamT (plusT (varT 0) (varT 0))) (numT n)) = some (numT (2 * n), 0) := normIs_eq (allN_of fam_app hn)
#print axioms norm_app
end Go.Proofs.YtjiecahopdaghaaDoor
