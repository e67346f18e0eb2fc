/- Terms that double too often. -/
import Derived.Test.YtjiecahopdaghaaDoorKda
namespace Go.Proofs.YtjiecahopdaghaaDoor
open Go.RowKit

set_option maxRecDepth 20000
set_option maxHeartbeats 8000000
theorem no_14 : deepNo 1000 14 = true := by kernel_rfl
theorem no_18 : deepNo 1000 18 = true := by kernel_rfl
theorem no_22 : deepNo 1000 22 = true := by kernel_rfl
theorem no_26 : deepNo 1000 26 = true := by kernel_rfl
theorem no_30 : deepNo 1000 30 = true := by kernel_rfl
theorem no_34 : deepNo 1000 34 = true := by kernel_rfl
theorem no_38 : deepNo 1000 38 = true := by kernel_rfl
#print axioms no_14
end Go.Proofs.YtjiecahopdaghaaDoor
